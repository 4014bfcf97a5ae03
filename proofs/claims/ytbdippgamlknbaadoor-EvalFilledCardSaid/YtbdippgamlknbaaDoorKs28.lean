/- Has a tree few parts? The document's count (registrarref10.count, Few). Values in the place of parameters: it comes to what it did with the parameters; no paramet -/
import Derived.Test.YtbdippgamlknbaaDoorKs07
import Derived.Test.YtbdippgamlknbaaDoorKs02
namespace Go.Proofs.YtbdippgamlknbaaDoor.Ep
open Go.RowKit Go.Proofs.YtbdippgamlknbaaDoor.Mem Go.Proofs.YtbdippgamlknbaaDoor.Right
set_option linter.unusedVariables false
/-- What count answers. -/
def cntR : Option Nat → Array Value
  | none => #[.int .i64 0, .bool false]
  | some m => #[.int .i64 (m : Int), .bool true]
theorem cnt_mk (k o vk vn : Int) (vs nm : List UInt8) (kids : List Ex) (n : Nat) : cnt (.mk k o vk vn vs nm kids) n = if n = 0 ∨ 12 < kids.length ∨ 100 < nm.length ∨ 100 < vs.length then none else cntL kids (n - 1) := by rw [cnt]
theorem cntL_nil (n : Nat) : cntL [] n = some n := by rw [cntL]
theorem cntL_cons (x : Ex) (l : List Ex) (n : Nat) : cntL (x :: l) n = match cnt x n with | none => none | some m => cntL l m := by rw [cntL] <;> rfl
theorem cnt_le {e : Ex} {n m : Nat} (h : cnt e n = some m) : m ≤ n := by have := cnt_size h; omega
set_option maxHeartbeats 4000000 in
theorem count_any : ∀ (e : Ex) (cs : List Value) (n : Nat) (w : World), ExAt w w.heap.size e cs → n ≤ 1000 →
    Calls Tryd.prog 51 #[.agg cs.toArray, .int .i64 (n : Int)] w fun x w' => x = .returned (.tuple (cntR (cnt e n))) ∧ Below w.heap.size w w' := by
  refine Ex.byKids fun k o vk vn vs nm kids ih cs n w h hn => ?_
  obtain ⟨A, kn, c, rfl, hkn, hc1, hc2, hc3, hk⟩ := ex_open h
  rw [cnt_mk]
  obtain ⟨nb, hnb⟩ : ∃ nb, txt nm = nb := ⟨_, rfl⟩
  obtain ⟨vb, hvb⟩ : ∃ vb, txt vs = vb := ⟨_, rfl⟩
  have hns : nb.size = nm.length := by rw [← hnb]; rfl
  have hvs : vb.size = vs.length := by rw [← hvb]; rfl
  rw [hnb, hvb]
  have HB0 := Lib.hid (al (Below.refl w.heap.size w) (.cells #[.int .i64 k, .int .i64 o, .int .i64 vk, .int .i64 vn, .string vb, .string nb, .slice A kn c] 38))
  have HN := Lib.hid hkn
  have t1c : 12 < kids.length ↔ 12 < kn := by rw [hkn]
  clear hkn
  by_cases h0 : n = 0
  · subst h0
    rw [if_pos (.inl rfl)]
    go_enter Tryd.func51, Tryd.ntmps51
    go_wp2
    go_ret2
    exact ⟨rfl, HB0.out⟩
  have t0 : decide ((n : Int) ≤ 0) = false := decide_eq_false (by omega)
  by_cases h1 : 12 < kids.length
  · rw [if_pos (.inr (.inl h1))]
    have t1 : decide (12 < (kn : Int)) = true := decide_eq_true (by have := t1c.1 h1; omega)
    clear h1 t1c
    go_enter Tryd.func51, Tryd.ntmps51
    go_wp2
    go_ret2
    exact ⟨rfl, HB0.out⟩
  have t1 : decide (12 < (kn : Int)) = false := decide_eq_false (fun g => h1 (t1c.2 (by omega)))
  have h12 : kn ≤ 12 := by omega
  by_cases h2 : 100 < nm.length
  · rw [if_pos (.inr (.inr (.inl h2)))]
    have t2 : decide (100 < (nb.size : Int)) = true := decide_eq_true (by omega)
    go_enter Tryd.func51, Tryd.ntmps51
    go_wp2
    go_ret2
    exact ⟨rfl, HB0.out⟩
  have t2 : decide (100 < (nb.size : Int)) = false := decide_eq_false (by omega)
  by_cases h3 : 100 < vs.length
  · rw [if_pos (.inr (.inr (.inr h3)))]
    have t3 : decide (100 < (vb.size : Int)) = true := decide_eq_true (by omega)
    go_enter Tryd.func51, Tryd.ntmps51
    go_wp2
    go_ret2
    exact ⟨rfl, HB0.out⟩
  have t3 : decide (100 < (vb.size : Int)) = false := decide_eq_false (by omega)
  rw [if_neg (by omega)]
  have HK := Lib.hid hk
  obtain ⟨n1, hn1⟩ : ∃ n1, n - 1 = n1 := ⟨_, rfl⟩
  have hn1' : (n : Int) - 1 = (n1 : Int) := by omega
  rw [hn1]
  clear hk h hnb hvb hns hvs hn1 h1 h2 h3 hc1 hc2 hc3 t1c
  go_enter Tryd.func51, Tryd.ntmps51
  go_wp2
  go_loopw [6, 1] (fun i l wr => ∃ (j m : Nat), j ≤ kn ∧ m ≤ 1000 ∧ i = .int .i64 (j : Int) ∧ l = .int .i64 (m : Int) ∧ Hid (cntL kids n1 = cntL (kids.drop j) m) ∧ Hid (Below (w.alloc (.cells #[.int .i64 k, .int .i64 o, .int .i64 vk, .int .i64 vn, .string vb, .string nb, .slice A kn c] 38)).heap.size (w.alloc (.cells #[.int .i64 k, .int .i64 o, .int .i64 vk, .int .i64 vn, .string vb, .string nb, .slice A kn c] 38)) wr)) (fun i _ _ => kn + 1 - (intOf i).toNat)
  case atStart => exact ⟨0, n1, Nat.zero_le _, by omega, rfl, rfl, Lib.hid (by rw [List.drop_zero]), Lib.hid (Below.refl _ _)⟩
  case round =>
    obtain ⟨j, m, hj, hm, rfl, rfl, HL, HB⟩ := hrel
    have HBw := Lib.hid (HB0.out.trans (HB.out.mono HB0.out.size))
    have d6 := HB.out.cell (p := ⟨w.heap.size, 6, none⟩) (by simp)
    by_cases hlt : j < kn
    · obtain ⟨x, hx⟩ := kid_some (l := kids) (j := j) (by have := HN.out; omega)
      obtain ⟨k', o', vk', vn', vs', nm', ks', A', n', c', b, p, e, rfl, hb, hn', c0, c1, c2, c3, c4, c5, c6, hin⟩ := kid_at HK.out hx
      have HI : ∀ W, Below w.heap.size w W → Calls Tryd.prog 51 #[exV k' o' vk' vn' (txt vs') (txt nm') A' n' c', .int .i64 (m : Int)] W fun x' w' => x' = .returned (.tuple (cntR (cnt x m))) ∧ Below W.heap.size W w' := fun W hW => ih x (kid_mem hx) _ m W (ExAt.on hin hW) hm
      rw [drop_kid hx, cntL_cons] at HL
      have c0 := (HBw.out.cell hb).trans c0
      have c1 := (HBw.out.cell hb).trans c1
      have c2 := (HBw.out.cell hb).trans c2
      have c3 := (HBw.out.cell hb).trans c3
      have c4 := (HBw.out.cell hb).trans c4
      have c5 := (HBw.out.cell hb).trans c5
      have c6 := (HBw.out.cell hb).trans c6
      have tl : decide ((j : Int) < (kn : Int)) = true := decide_eq_true (by omega)
      clear hin hn' e
      cases hcx : cnt x m with
      | none =>
        rw [hcx] at HI HL
        simp only [cntR] at HI
        have HI := Lib.hid HI
        go_wp2_with (go_at_call 51; (with_reducible refine (HI.out _ HBw.out).mono ?_); rintro e' w2 ⟨rfl, hb2⟩; have HB2 := Lib.hid hb2; clear hb2)
        go_ret2
        exact ⟨by rw [HL.out]; rfl, Mem.on HBw.out HB2.out⟩
      | some m' =>
        rw [hcx] at HI HL
        simp only [cntR] at HI
        have hm' := cnt_le hcx
        have HI := Lib.hid HI
        go_wp2_with (go_at_call 51; (with_reducible refine (HI.out _ HBw.out).mono ?_); rintro e' w2 ⟨rfl, hb2⟩; have HB2 := Lib.hid hb2; clear hb2)
        go_roundw
        case rel => exact ⟨j + 1, m', by omega, by omega, by go_num, rfl, HL, Lib.hid (HB.out.trans (HB2.out.mono HB.out.size))⟩
        case measure => simp [intOf]; omega
    · have tl : decide ((j : Int) < (kn : Int)) = false := decide_eq_false (by omega)
      have hd : kids.drop j = [] := List.drop_eq_nil_of_le (by have := HN.out; omega)
      rw [hd, cntL_nil] at HL
      go_wp2
      go_ret2
      exact ⟨by rw [HL.out]; rfl, HBw.out⟩
theorem few_any (e : Ex) (cs : List Value) (n : Nat) (w : World) (h : ExAt w w.heap.size e cs) (hn : n ≤ 1000) :
    Calls Tryd.prog 15 #[.agg cs.toArray, .int .i64 (n : Int)] w fun x w' => x = .returned (.bool (cnt e n).isSome) ∧ Below w.heap.size w w' := by
  have HC : ∀ W, Below w.heap.size w W → Calls Tryd.prog 51 #[.agg cs.toArray, .int .i64 (n : Int)] W fun x w' => x = .returned (.tuple (cntR (cnt e n))) ∧ Below W.heap.size W w' := fun W hW => count_any e cs n W (h.on hW) hn
  obtain ⟨k, o, vk, vn, vs, nm, kids⟩ := e
  obtain ⟨A, kn, c, rfl, -⟩ := ex_open h
  have HB0 := Lib.hid (al (Below.refl w.heap.size w) (.cells #[.int .i64 k, .int .i64 o, .int .i64 vk, .int .i64 vn, .string (txt vs), .string (txt nm), .slice A kn c] 38))
  cases hc : cnt (.mk k o vk vn vs nm kids) n with
  | none =>
    rw [hc] at HC
    simp only [cntR] at HC
    have HC := Lib.hid HC
    clear h
    go_enter Tryd.func15, Tryd.ntmps15
    go_wp2_with (go_at_call 51; (with_reducible refine (HC.out _ HB0.out).mono ?_); rintro e' w2 ⟨rfl, hb2⟩; have HB2 := Lib.hid hb2; clear hb2)
    go_ret
    exact ⟨rfl, Mem.on HB0.out HB2.out⟩
  | some m =>
    rw [hc] at HC
    simp only [cntR] at HC
    have HC := Lib.hid HC
    clear h
    go_enter Tryd.func15, Tryd.ntmps15
    go_wp2_with (go_at_call 51; (with_reducible refine (HC.out _ HB0.out).mono ?_); rintro e' w2 ⟨rfl, hb2⟩; have HB2 := Lib.hid hb2; clear hb2)
    go_ret
    exact ⟨rfl, Mem.on HB0.out HB2.out⟩
end Go.Proofs.YtbdippgamlknbaaDoor.Ep
namespace Go.Proofs.YtbdippgamlknbaaDoor.Ev
open Go.Proofs.YtbdippgamlknbaaDoor.Ep
set_option linter.unusedVariables false
/-- A value as an expression. -/
def litX (v : Vv) : Ex :=
  if v.k ≠ 1 ∨ 0 ≤ v.n then lit v.k v.n v.s
  else if v.n = -9223372036854775808 then bin 10 (un 1 (lit 1 9223372036854775807 [])) (lit 1 1 []) else un 1 (lit 1 (-v.n) [])
section
variable (ps : List Vv)
mutual
def fill : Ex → Ex
  | .mk k o vk vn vs nm kids => if k = 3 then litX (ps.getD (o - 1).toNat nul) else .mk k o vk vn vs nm (fillL kids)
def fillL : List Ex → List Ex
  | [] => []
  | x :: l => fill x :: fillL l
end
def okP (v : Vv) : Prop := Val.okV v.k v.n v.s = true ∧ i64n v.n
mutual
/-- The parameters that are named are there, and right. -/
def Uses : Ex → Prop
  | .mk k o vk vn vs nm kids => (k = 3 → 1 ≤ o ∧ o ≤ (ps.length : Int) ∧ okP (ps.getD (o - 1).toNat nul)) ∧ UsesL kids
def UsesL : List Ex → Prop
  | [] => True
  | x :: l => Uses x ∧ UsesL l
end
end
theorem usesL_iff {ps : List Vv} : ∀ {l : List Ex}, UsesL ps l ↔ ∀ x ∈ l, Uses ps x
  | [] => by rw [UsesL]; simp
  | x :: l => by rw [UsesL, usesL_iff]; simp
theorem uses_mk (ps : List Vv) (k o vk vn : Int) (vs nm : List UInt8) (kids : List Ex) : Uses ps (.mk k o vk vn vs nm kids) ↔ (k = 3 → 1 ≤ o ∧ o ≤ (ps.length : Int) ∧ okP (ps.getD (o - 1).toNat nul)) ∧ ∀ x ∈ kids, Uses ps x := by rw [Uses, usesL_iff]
theorem fillL_map (ps : List Vv) : ∀ l : List Ex, fillL ps l = l.map (fill ps)
  | [] => by rw [fillL]; rfl
  | x :: l => by rw [fillL, fillL_map ps l]; rfl
theorem fillL_len (ps : List Vv) (l : List Ex) : (fillL ps l).length = l.length := by rw [fillL_map, List.length_map]
/-- An Int that is right has no text. -/
theorem ok_text {v : Vv} (h : okP v) (hk : v.k = 1) : v.s = [] := by
  have := h.1
  unfold Val.okV at this
  rw [hk] at this
  simpa using this
section
variable {ord : Int → Vv → Vv → Bool} {row : List Vv}
theorem numV_fits {n : Int} (h : -9223372036854775808 ≤ n ∧ n ≤ 9223372036854775807) : numV (Num.rv n) (Num.re n) = (⟨1, n, []⟩, 0) := by
  have hf := (Num.fits_iff n).2 h
  unfold numV Num.rv Num.re
  rw [if_pos hf, if_pos hf, if_pos rfl]
theorem come_lit (p : List Vv) (k n : Int) (s : List UInt8) : come ord row p (lit k n s) = (⟨k, n, s⟩, 0) := by
  unfold lit
  rw [come, if_pos rfl]
theorem come_neg (p : List Vv) (n : Int) (h : -9223372036854775808 ≤ -n ∧ -n ≤ 9223372036854775807) : come ord row p (un 1 (lit 1 n [])) = (⟨1, -n, []⟩, 0) := by
  unfold un
  rw [come, if_neg (by decide), if_neg (by decide), if_neg (by decide), if_neg (by decide), comeK, come_lit, comb_un (by simp)]
  unfold one
  rw [if_neg (by decide), if_neg (show ¬ (1 : Int) = 0 by decide), if_neg (by decide), if_neg (show ¬ (1 : Int) ≠ 1 by decide)]
  exact numV_fits h
/-- A value's expression comes to it. -/
theorem come_litX (p : List Vv) {v : Vv} (h : okP v) : come ord row p (litX v) = (v, 0) := by
  unfold litX
  split
  · exact come_lit _ _ _ _
  rename_i h0
  have hk : v.k = 1 := by omega
  have hs := ok_text h hk
  have hv : v = ⟨1, v.n, []⟩ := by
    obtain ⟨k, n, s⟩ := v
    simp only at hk hs ⊢
    rw [hk, hs]
  have hn := h.2
  unfold i64n at hn
  split
  · rename_i hl
    unfold bin
    rw [come, if_neg (by decide), if_neg (by decide), if_neg (by decide), if_neg (by decide), comeK, comeH, come_lit, come_neg _ _ (by decide), comb_two (by decide) (by decide), if_neg (by decide), if_pos (by decide)]
    unfold mathV mathN
    rw [if_neg (by decide), if_neg (by decide), if_neg (by decide), if_neg (by decide), if_pos rfl, numV_fits (by decide), hv, hl]
    rfl
  · rename_i hl
    rw [come_neg _ _ (by omega), Int.neg_neg, ← hv]
mutual
/-- It comes to what it did. -/
theorem come_fill {ps : List Vv} : ∀ {e : Ex}, Uses ps e → come ord row [] (fill ps e) = come ord row ps e
  | .mk k o vk vn vs nm kids, h => by
    obtain ⟨h1, h2⟩ := (Uses.eq_1 ps k o vk vn vs nm kids).mp h
    rw [fill]
    by_cases c : k = 3
    · obtain ⟨g1, g2, g3⟩ := h1 c
      rw [if_pos c, come_litX [] g3, come, if_neg (by omega), if_neg (by omega), if_neg (by omega), if_pos c]
      unfold valAt
      rw [if_neg (by omega)]
    · rw [if_neg c, come, come]
      rw [if_neg c, if_neg c, comeK_fill h2]
theorem comeK_fill {ps : List Vv} {k o : Int} {nm : List UInt8} : ∀ {l : List Ex}, UsesL ps l → comeK ord row [] k o nm (fillL ps l) = comeK ord row ps k o nm l
  | [], _ => by rw [fillL, comeK, comeK]
  | x :: l, h => by
    obtain ⟨h1, h2⟩ := (UsesL.eq_2 ps x l).mp h
    rw [fillL, comeK, comeK, come_fill h1, comeH_fill h2, inL_fill h2, coL_fill h2]
theorem comeH_fill {ps : List Vv} : ∀ {l : List Ex}, UsesL ps l → comeH ord row [] (fillL ps l) = comeH ord row ps l
  | [], _ => by rw [fillL, comeH, comeH]
  | x :: l, h => by
    obtain ⟨h1, h2⟩ := (UsesL.eq_2 ps x l).mp h
    rw [fillL, comeH, comeH, come_fill h1]
theorem inL_fill {ps : List Vv} {a : Vv} {out : Int} : ∀ {l : List Ex}, UsesL ps l → inL ord row [] a out (fillL ps l) = inL ord row ps a out l
  | [], _ => by rw [fillL, inL, inL]
  | x :: l, h => by
    obtain ⟨h1, h2⟩ := (UsesL.eq_2 ps x l).mp h
    rw [fillL, inL, inL, come_fill h1, inL_fill h2]
theorem coL_fill {ps : List Vv} {a : Vv} : ∀ {l : List Ex}, UsesL ps l → coL ord row [] a (fillL ps l) = coL ord row ps a l
  | [], _ => by rw [fillL, coL, coL]
  | x :: l, h => by
    obtain ⟨h1, h2⟩ := (UsesL.eq_2 ps x l).mp h
    rw [fillL, coL, coL, come_fill h1, coL_fill h2]
end
end
mutual
/-- The greatest parameter's number. -/
def pmax : Ex → Int
  | .mk k o _ _ _ _ kids => max (if k = 3 then o else 0) (pmaxL kids)
def pmaxL : List Ex → Int
  | [] => 0
  | x :: l => max (pmax x) (pmaxL l)
end
theorem pmax_litX (v : Vv) : pmax (litX v) ≤ 0 := by
  unfold litX
  split
  · rename_i h
    unfold lit
    rw [pmax, pmaxL, if_neg (by decide)]
    decide
  split
  · unfold bin un lit
    rw [pmax, pmaxL, pmaxL, pmaxL, pmax, pmaxL, pmaxL, pmax, pmaxL, pmax, pmaxL, if_neg (by decide), if_neg (by decide), if_neg (by decide)]
    decide
  · unfold un lit
    rw [pmax, pmaxL, pmaxL, pmax, pmaxL, if_neg (by decide), if_neg (by decide)]
    decide
theorem pmaxL_le {l : List Ex} (h : ∀ x ∈ l, pmax x ≤ 0) : pmaxL l ≤ 0 := by
  induction l with
  | nil => rw [pmaxL]; decide
  | cons x l ih =>
    rw [pmaxL]
    have h1 := h x (by simp)
    have h2 := ih fun y hy => h y (List.mem_cons_of_mem _ hy)
    omega
theorem pmax_fill (ps : List Vv) : ∀ e : Ex, pmax (fill ps e) ≤ 0 := by
  refine Ex.byKids fun k o vk vn vs nm kids ih => ?_
  rw [fill]
  split
  · exact pmax_litX _
  · rename_i c
    rw [pmax, if_neg c, fillL_map]
    have := pmaxL_le (l := kids.map (fill ps)) fun x hx => by
      obtain ⟨y, hy, rfl⟩ := List.mem_map.1 hx
      exact ih y hy
    omega
theorem rs_litX {slots : Bool} {v : Vv} (h : okP v) : Rs slots (litX v) := by
  unfold litX
  split
  · rename_i c
    exact .lit h.1 fun hk => by omega
  rename_i c
  have hn := h.2
  unfold i64n at hn
  split
  · exact .bin (by decide) (by decide) (.un (by decide) (by decide) (.lit (by decide) (by decide))) (.lit (by decide) (by decide))
  · exact .un (by decide) (by decide) (.lit (by unfold Val.okV; simp) (fun _ => by omega))
/-- What is right stays right. -/
theorem rs_fill {slots : Bool} {ps : List Vv} {e : Ex} (h : Rs slots e) : Uses ps e → Rs slots (fill ps e) := by
  induction h with
  | lit h1 h2 =>
    intro u
    unfold lit
    rw [fill, if_neg (by decide), fillL]
    exact .lit h1 h2
  | col h =>
    intro u
    unfold col
    rw [fill, if_neg (by decide), fillL]
    exact .col h
  | @par o h1 h2 =>
    intro u
    unfold par at u ⊢
    rw [fill, if_pos rfl]
    exact rs_litX (((uses_mk _ _ _ _ _ _ _ _).1 u).1 rfl).2.2
  | @un o a h1 h2 h ih =>
    intro u
    unfold un at u ⊢
    rw [fill, if_neg (by decide), fillL, fillL]
    exact .un h1 h2 (ih (((uses_mk _ _ _ _ _ _ _ _).1 u).2 _ (by simp)))
  | @bin o a b h1 h2 h h' ih ih' =>
    intro u
    unfold bin at u ⊢
    rw [fill, if_neg (by decide), fillL, fillL, fillL]
    exact .bin h1 h2 (ih (((uses_mk _ _ _ _ _ _ _ _).1 u).2 _ (by simp))) (ih' (((uses_mk _ _ _ _ _ _ _ _).1 u).2 _ (by simp)))
  | @inn a l h1 h2 h h' ih ih' =>
    intro u
    unfold inn at u ⊢
    rw [fill, if_neg (by decide), fillL]
    have hu := ((uses_mk _ _ _ _ _ _ _ _).1 u).2
    refine .inn ?_ (by rw [fillL_len]; exact h2) (ih (hu _ (by simp))) fun x hx => ?_
    · intro e
      have := congrArg List.length e
      rw [fillL_len] at this
      exact h1 (List.length_eq_zero_iff.1 this)
    · rw [fillL_map] at hx
      obtain ⟨y, hy, rfl⟩ := List.mem_map.1 hx
      exact ih' y hy (hu _ (List.mem_cons_of_mem _ hy))
  | @call nm l h1 h2 h ih =>
    intro u
    unfold call at u ⊢
    rw [fill, if_neg (by decide)]
    have hu := ((uses_mk _ _ _ _ _ _ _ _).1 u).2
    refine .call ?_ (by rw [fillL_len]; exact h2) fun x hx => ?_
    · intro e
      have := congrArg List.length e
      rw [fillL_len] at this
      exact h1 (List.length_eq_zero_iff.1 this)
    · rw [fillL_map] at hx
      obtain ⟨y, hy, rfl⟩ := List.mem_map.1 hx
      exact ih y hy (hu _ hy)
  | @slot o hs h1 h2 =>
    intro u
    rw [fill, if_neg (by decide), fillL]
    exact .slot hs h1 h2
end Go.Proofs.YtbdippgamlknbaaDoor.Ev
