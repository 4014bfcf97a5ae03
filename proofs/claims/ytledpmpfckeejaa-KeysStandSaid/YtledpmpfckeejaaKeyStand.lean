/- For the law of order: contracts in every world that has grown out of one. -/
import Derived.Test.YtledpmpfckeejaaKeyWalkBack
namespace Go.Proofs.Ytledpmpfckeejaa.Key
open Go.RowKit Go.Proofs.Ytledpmpfckeejaa.Mem Go.Proofs.Ytledpmpfckeejaa.Right
set_option linter.unusedVariables false

theorem begins_in (A C : Option Addr) (n m ca cb : Nat) (l r : List UInt8) (x : Bool) (hx : beg l r = x) (w0 W : World) (h1 : Bs w0 A n ca l) (h2 : Bs w0 C m cb r) (hW : Below w0.heap.size w0 W) :
    Calls Try.prog 13 #[.slice A n ca, .slice C m cb] W fun e w' => e = .returned (.bool x) ∧ Below w0.heap.size w0 w' :=
  (begins_got A C n m ca cb l r x hx W (h1.below hW) (h2.below hW)).mono fun _ _ ⟨a, b⟩ => ⟨a, b ▸ hW⟩
theorem below_in (A C : Option Addr) (n m ca cb : Nat) (l r : List UInt8) (x : Bool) (hx : blt l r = x) (w0 W : World) (h1 : Bs w0 A n ca l) (h2 : Bs w0 C m cb r) (hW : Below w0.heap.size w0 W) :
    Calls Try.prog 14 #[.slice A n ca, .slice C m cb] W fun e w' => e = .returned (.bool x) ∧ Below w0.heap.size w0 w' :=
  (below_got A C n m ca cb l r x hx W (h1.below hW) (h2.below hW)).mono fun _ _ ⟨a, b⟩ => ⟨a, on hW b⟩
theorem same_in (A C : Option Addr) (n m ca cb : Nat) (l r : List UInt8) (x : Bool) (hx : decide (l = r) = x) (w0 W : World) (h1 : Bs w0 A n ca l) (h2 : Bs w0 C m cb r) (hW : Below w0.heap.size w0 W) :
    Calls Try.prog 10 #[.slice A n ca, .slice C m cb] W fun e w' => e = .returned (.bool x) ∧ Below w0.heap.size w0 w' :=
  (same_got A C n m ca cb l r x hx W (h1.below hW) (h2.below hW)).mono fun _ _ ⟨a, b⟩ => ⟨a, on hW b⟩
theorem less_in (u v : Vl) (x : Bool) (hx : vlt u v = x) (w0 W : World) (hW : Below w0.heap.size w0 W) :
    Calls Try.prog 15 #[.agg #[.int .i64 u.k, .int .i64 u.n, .string u.s], .agg #[.int .i64 v.k, .int .i64 v.n, .string v.s]] W fun e w' => e = .returned (.bool x) ∧ Below w0.heap.size w0 w' :=
  (less_any u v W).mono fun _ _ ⟨a, b⟩ => ⟨by rw [a, hx], on hW b⟩
theorem works_in (w0 W : World) (hW : Below w0.heap.size w0 W) : Calls Try.prog 7 #[] W fun e w' => e = .returned (.bool true) ∧ Below w0.heap.size w0 w' :=
  (works_any W).mono fun _ _ ⟨a, b⟩ => ⟨a, on hW b⟩
theorem next_in (A : Option Addr) (n c : Nat) (l r : List UInt8) (m : Nat) (hr : nextV l = r) (hm : r.length = m) (hs : n ≤ 1000000) (w0 W : World) (h : Bs w0 A n c l) (hW : Below w0.heap.size w0 W) :
    Calls Try.prog 16 #[.slice A n c] W (NextG W r m) := next_got A n c l r m hr hm W hs (h.below hW)

theorem lcp_is {l m : List Vl} {k : Nat} {u v : Vl} (h : l.take k = m.take k) (hu : l[k]? = some u) (hv : m[k]? = some v) (hne : ¬ u = v) : lcp l m = k := by
  obtain ⟨h1, _⟩ := List.getElem?_eq_some_iff.1 hu
  obtain ⟨h2, _⟩ := List.getElem?_eq_some_iff.1 hv
  have h3 := lcp_at h (by omega) (by omega)
  rcases Nat.lt_or_ge k (lcp l m) with h4 | h4
  · exfalso
    have h5 := congrArg (fun x => x[k]?) (lcp_take l m)
    simp only [List.getElem?_take, if_pos h4, hu, hv] at h5
    injection h5 with h5
    exact hne h5
  · omega
theorem lcp_end {l m : List Vl} {k : Nat} (h : l.take k = m.take k) (hk : k = l.length) (hk' : k ≤ m.length) : lcp l m = l.length := by
  have h1 := lcp_at h (by omega) hk'
  have h2 := (lcp_le l m).1
  omega
theorem lcp_end2 {l m : List Vl} {k : Nat} (h : l.take k = m.take k) (hk : k = m.length) (hk' : k ≤ l.length) : lcp l m = m.length := by
  have h1 := lcp_at h hk' (by omega)
  have h2 := (lcp_le l m).2
  omega
theorem vl_pos (v : Vl) : 1 ≤ (Vl.one v).length := by
  unfold Vl.one one
  split
  · simp
  · split
    · simp
    · split <;> simp
theorem code_pos {l : List Vl} (h : 0 < l.length) : 0 < (code l).length := by
  match l, h with
  | v :: r, _ =>
    have := vl_pos v
    rw [code, List.length_append]; omega
theorem put_is {vs : List Vl} {la : List UInt8} (hx : putE vs = 0) (hl : putB vs = la) (hz : Wide vs) : la = code vs ∧ Vls.ok vs ∧ vs.length ≤ 6 := by
  obtain ⟨p1, p2, p3⟩ := putE_ok hx
  exact ⟨by rw [← hl, p3], wide_ok hz p2, p1⟩
theorem next_short {l : List UInt8} : (nextV l).length ≤ l.length := by
  have h1 := cut_len l
  have h2 : ∀ x : List UInt8, (up x).length = x.length := by
    intro x
    induction x with
    | nil => rfl
    | cons c r ih =>
      cases r with
      | nil => rfl
      | cons d t => rw [up, List.length_cons, ih, List.length_cons]; rfl
  unfold nextV
  rw [h2]; exact h1

theorem quiet_load3 {C : World → Prop} {K : Act → Prop} {o : Oper} {a : Act} {b f : Nat} {v : Vl} (x : Operand) (ho : o.op = .load 37 x) (hx : a.eval x = .pointer (some ⟨b, f, none⟩))
    (hB : ∀ w, C w → w.cell? ⟨b, f, none⟩ = some (.int .i64 v.k) ∧ w.cell? ⟨b, f + 1, none⟩ = some (.int .i64 v.n) ∧ w.cell? ⟨b, f + 2, none⟩ = some (.string v.s)) (hk : K (a.put o.dst (.agg #[.int .i64 v.k, .int .i64 v.n, .string v.s]))) : o.quiet Try.prog a C K := by
  refine ⟨_, fun w hw => ?_, hk⟩
  obtain ⟨c0, c1, c2⟩ := hB w hw
  unfold Oper.quietAt execOp
  simp only [ho, hx]
  go_simp
theorem quiet_eq3 {C : World → Prop} {K : Act → Prop} {o : Oper} {a : Act} {u v : Vl} (x y : Operand) (ho : o.op = .binOp .eql 37 x y 37)
    (hx : a.eval x = .agg #[.int .i64 u.k, .int .i64 u.n, .string u.s]) (hy : a.eval y = .agg #[.int .i64 v.k, .int .i64 v.n, .string v.s]) (hne : ¬ u = v)
    (hk : K (a.put o.dst (.bool false))) : o.quiet Try.prog a C K := by
  refine ⟨_, fun w hw => ?_, hk⟩
  obtain ⟨k1, n1, s1⟩ := u
  obtain ⟨k2, n2, s2⟩ := v
  simp only at hx hy
  unfold Oper.quietAt execOp
  simp only [ho, hx, hy]
  go_simp
  by_cases e1 : k1 = k2
  · by_cases e2 : n1 = n2
    · by_cases e3 : s1.toList = s2.toList
      · rw [Lib.toList_data, Lib.toList_data] at e3
        have e4 := l_inj e3
        subst e1 e2 e4
        exact absurd rfl hne
      · simp [e1, e2, e3]
    · simp [e1, e2]
  · simp [e1]
theorem quiet_val {C : World → Prop} {K : Act → Prop} {o : Oper} {a : Act} (h : ∃ v, (∀ w, (execOp a.eval o).run Try.prog w = .ok (.value v) w) ∧ K (a.put o.dst v)) : o.quiet Try.prog a C K := by
  obtain ⟨v, h, hk⟩ := h
  exact ⟨v, fun w hw => by unfold Oper.quietAt; rw [h w]; exact ⟨rfl, rfl⟩, hk⟩
theorem vals_in {w W : World} {B : Nat} {A : Option Addr} {b o k : Nat} {vs : List Vl} {v : Vl} (h : Vals w w.heap.size A vs) (hv : vs[k]? = some v) (hA : A = some ⟨b, o, none⟩) (hW : Below w.heap.size w W) :
    W.cell? ⟨b, o + k * 3, none⟩ = some (.int .i64 v.k) ∧ W.cell? ⟨b, o + k * 3 + 1, none⟩ = some (.int .i64 v.n) ∧ W.cell? ⟨b, o + k * 3 + 2, none⟩ = some (.string v.s) := by
  obtain ⟨b', o', e, hb, c0, c1, c2⟩ := (h.below hW (Nat.le_refl _)) k v hv
  rw [hA] at e
  injection e with e
  injection e with e1 e2
  subst e1 e2
  exact ⟨c0, c1, c2⟩

set_option maxRecDepth 100000 in
set_option maxHeartbeats 4000000 in
theorem stand_both (A : Option Addr) (n c : Nat) (vs : List Vl) (C : Option Addr) (m d : Nat) (us : List Vl) (w : World)
    (hn : n ≤ vs.length) (hn' : vs.length ≤ n) (hN : n ≤ 9223372036854775807) (h : Vals w w.heap.size A vs) (hz : Wide vs)
    (hm : m ≤ us.length) (hm' : us.length ≤ m) (hM : m ≤ 9223372036854775807) (h2 : Vals w w.heap.size C us) (hz2 : Wide us)
    (hl : largeF 0 vs = false) (hl2 : largeF 0 us = false) (hx : putE vs = 0) (hx2 : putE us = 0) :
    Calls Try.prog 5 #[.slice A n c, .slice C m d] w fun e w' => e = .returned (.bool true) ∧ Below w.heap.size w w' := by
  obtain ⟨la, hla⟩ : ∃ la, putB vs = la := ⟨_, rfl⟩
  obtain ⟨lb, hlb⟩ : ∃ lb, putB us = lb := ⟨_, rfl⟩
  obtain ⟨p, hp⟩ : ∃ p, la.length = p := ⟨_, rfl⟩
  obtain ⟨q, hq⟩ : ∃ q, lb.length = q := ⟨_, rfl⟩
  have H := Lib.hid h
  have HZ := Lib.hid hz
  have H2 := Lib.hid h2
  have HZ2 := Lib.hid hz2
  have HL := Lib.hid hl
  have HL2 := Lib.hid hl2
  have HX := Lib.hid hx
  have HX2 := Lib.hid hx2
  have HLA := Lib.hid hla
  have HLB := Lib.hid hlb
  have HP := Lib.hid hp
  have HQ := Lib.hid hq
  obtain ⟨ca, oka, la6⟩ := put_is hx hla hz
  obtain ⟨cb, okb, lb6⟩ := put_is hx2 hlb hz2
  have HCA := Lib.hid ca
  have HCB := Lib.hid cb
  have HOK := Lib.hid oka
  have HOK2 := Lib.hid okb
  have HPP := Lib.hid (show 0 < n → 0 < p from fun h0 => by rw [← hp, ca]; exact code_pos (by omega))
  have HPS := Lib.hid (show p ≤ 1000000 by have := code_len (fun v hv => (oka v hv).1); rw [← hp, ca]; omega)
  obtain ⟨nx, hnx⟩ : ∃ nx, nextV la = nx := ⟨_, rfl⟩
  obtain ⟨r, hr⟩ : ∃ r, nx.length = r := ⟨_, rfl⟩
  have HNX := Lib.hid hnx
  have HR := Lib.hid hr
  have hr6 : r ≤ 1000000 := by have := next_short (l := la); have := HPS.out; rw [hnx, hr, hp] at *; omega
  clear h hz h2 hz2 hl hl2 hx hx2 hla hlb hp hq ca oka la6 cb okb lb6 hnx hr
  go_enter Try.func5, Try.ntmps5
  go_wp2_with (first | (go_at_call 6; (with_reducible refine (large_is A n c vs false HL.out w hn hn' hN HZ.out H.out).mono ?_); rintro e w' ⟨rfl, rfl⟩) | (go_at_call 6; (with_reducible refine (large_is C m d us false HL2.out w hm hm' hM HZ2.out H2.out).mono ?_); rintro e w' ⟨rfl, rfl⟩) | (go_at_call 8; (with_reducible refine (put_got A n c vs la 0 p HLA.out HX.out HP.out w hn hn' hN HZ.out H.out).mono ?_); rintro e w1 ⟨A1, c1, rfl, hb1, hs1⟩; have HB1 := Lib.hid hb1; have HS1 := Lib.hid hs1; have HV1 := Lib.hid ((H2.out.below hb1 (Nat.le_refl _)).more hb1.size); clear hb1 hs1) | (go_at_call 8; (with_reducible refine (put_got C m d us lb 0 q HLB.out HX2.out HQ.out w1 hm hm' hM HZ2.out HV1.out).mono ?_); rintro e w2 ⟨A2, c2, rfl, hb2, hs2⟩; have HB2 := Lib.hid (on HB1.out hb2); have HA := Lib.hid (HS1.out.below hb2); have HB := Lib.hid hs2; clear hb2 hs2))
  have V1 := Lib.hid ((H.out.below HB2.out (Nat.le_refl _)).more HB2.out.size)
  have V2 := Lib.hid ((H2.out.below HB2.out (Nat.le_refl _)).more HB2.out.size)
  go_loopw [9] (fun i wr => ∃ k : Nat, k ≤ n ∧ k ≤ m ∧ i = .int .i64 k ∧ Hid (vs.take k = us.take k) ∧ Hid (Below w2.heap.size w2 wr)) (fun i _ => n - (intOf i).toNat)
  case atStart => exact ⟨0, Nat.zero_le _, Nat.zero_le _, rfl, Lib.hid rfl, Lib.hid (Below.refl _ _)⟩
  case round =>
    obtain ⟨k, hk, hk', rfl, HT, HW0⟩ := hrel
    by_cases hlt : k < n
    · have t0 : decide ((k : Int) < (n : Int)) = true := decide_eq_true (by omega)
      by_cases hlm : k < m
      · obtain ⟨b, o, v, rfl, hb, hv, v0, v1, v2⟩ := (V1.out.below HW0.out (Nat.le_refl _)).at_ (k := k) (by omega)
        obtain ⟨b', o', u, rfl, hb', hu, u0, u1, u2⟩ := (V2.out.below HW0.out (Nat.le_refl _)).at_ (k := k) (by omega)
        have t1 : decide ((k : Int) < (m : Int)) = true := decide_eq_true (by omega)
        have HV := Lib.hid hv
        have HU := Lib.hid hu
        have hlt' : (k : Int) < (n : Int) := by omega
        have hlm' : (k : Int) < (m : Int) := by omega
        clear hv hu
        by_cases e : v = u
        · subst e
          have HS := Lib.hid (show vs.take (k + 1) = us.take (k + 1) by rw [List.take_add_one, List.take_add_one, HV.out, HU.out, HT.out])
          go_wp2
          go_quiet (fail)
          go_wp2
          go_roundw
          case rel => exact ⟨k + 1, by omega, by omega, by go_num, HS, Lib.hid (below_drewN HW0.out _)⟩
          case measure => simp [intOf]; omega
        · have NE := Lib.hid e
          clear e
          go_wp2
          refine wp_region_quiet (C := fun w' => Below w2.heap.size w2 w') (by kernel_rfl) (by kernel_rfl) HW0.out.drew ?_
          repeat (first | (refine BigFrame.wpQuiet_skip rfl ?_; simp only [Act.put, List.setIfInBounds_toArray, List.set_cons_zero, List.set_cons_succ]) | (refine BigFrame.wpQuiet_want rfl (fun K hK => ?_); refine quiet_load3 _ rfl rfl (fun W h => vals_in (B := 0) V1.out HV.out rfl h) ?_; refine hK _ ?_; clear hK K; simp only [Act.put, List.setIfInBounds_toArray, List.set_cons_zero, List.set_cons_succ]) | (refine BigFrame.wpQuiet_want rfl (fun K hK => ?_); refine quiet_load3 _ rfl rfl (fun W h => vals_in (B := 0) V2.out HU.out rfl h) ?_; refine hK _ ?_; clear hK K; simp only [Act.put, List.setIfInBounds_toArray, List.set_cons_zero, List.set_cons_succ]) | (refine BigFrame.wpQuiet_want rfl (fun K hK => ?_); refine quiet_eq3 _ _ rfl rfl rfl NE.out ?_; refine hK _ ?_; clear hK K; simp only [Act.put, List.setIfInBounds_toArray, List.set_cons_zero, List.set_cons_succ]) | (quiet_step (fail)) | (refine BigFrame.wpQuiet_want rfl (fun K hK => ?_); refine quiet_val ?_; apply Exists.intro; refine ⟨fun w => ?_, hK _ ?_⟩; (go_simp; try rfl); clear hK K; simp only [Act.put, List.setIfInBounds_toArray, List.set_cons_zero, List.set_cons_succ]))
          refine wpQuiet_nil ?_
          intro W1 hW1
          have HW1 := Lib.hid hW1
          have HLC := lcp_is HT.out HV.out HU.out NE.out
          obtain ⟨x, hx⟩ : ∃ x, vlt v u = x := ⟨_, rfl⟩
          have HUN := unlike HOK.out HOK2.out (by rw [HLC]; exact HV.out) (by rw [HLC]; exact HU.out)
          rw [← HCA.out, ← HCB.out, hx] at HUN
          obtain ⟨z1, z2, z3, z4⟩ := HUN
          have HLT := Lib.hid z1
          have HLS := Lib.hid hx
          have HNE := Lib.hid (decide_eq_false z2)
          have HG1 := Lib.hid z3
          have HG2 := Lib.hid z4
          have tn : ((k : Int) == (n : Int)) = false := beq_no (by omega)
          have tm : ((k : Int) == (m : Int)) = false := beq_no (by omega)
          have tp : ((p : Int) == 0) = false := beq_no (by have := HPP.out (by omega); omega)
          have hp0 := HPP.out (show 0 < n by omega)
          clear HLC z1 z2 z3 z4 hx hW1
          go_wp2
          refine wp_region_quiet (C := fun w' => Below w2.heap.size w2 w') (by kernel_rfl) (by kernel_rfl) HW1.out.drew ?_
          repeat (first | (refine BigFrame.wpQuiet_skip rfl ?_; simp only [Act.put, List.setIfInBounds_toArray, List.set_cons_zero, List.set_cons_succ]) | (refine BigFrame.wpQuiet_want rfl (fun K hK => ?_); refine quiet_load3 _ rfl rfl (fun W h => vals_in (B := 0) V1.out HV.out rfl h) ?_; refine hK _ ?_; clear hK K; simp only [Act.put, List.setIfInBounds_toArray, List.set_cons_zero, List.set_cons_succ]) | (refine BigFrame.wpQuiet_want rfl (fun K hK => ?_); refine quiet_load3 _ rfl rfl (fun W h => vals_in (B := 0) V2.out HU.out rfl h) ?_; refine hK _ ?_; clear hK K; simp only [Act.put, List.setIfInBounds_toArray, List.set_cons_zero, List.set_cons_succ]) | (quiet_step ((intro hW; first | (go_at_call 14; with_reducible exact below_in A1 A2 p q c1 c2 la lb x HLT.out w2 _ HA.out HB.out hW) | (go_at_call 15; with_reducible exact less_in v u x HLS.out w2 _ hW) | (go_at_call 10; with_reducible exact same_in A1 A2 p q c1 c2 la lb false HNE.out w2 _ HA.out HB.out hW) | (go_at_call 13; with_reducible exact begins_in A1 A2 p q c1 c2 la lb false HG1.out w2 _ HA.out HB.out hW) | (go_at_call 13; with_reducible exact begins_in A2 A1 q p c2 c1 lb la false HG2.out w2 _ HB.out HA.out hW)))) | (refine BigFrame.wpQuiet_want rfl (fun K hK => ?_); refine quiet_val ?_; apply Exists.intro; refine ⟨fun w => ?_, hK _ ?_⟩; (go_simp; try rfl); clear hK K; simp only [Act.put, List.setIfInBounds_toArray, List.set_cons_zero, List.set_cons_succ]))
          refine wpQuiet_nil ?_
          intro W2 hW2
          have HW2 := Lib.hid hW2
          clear hW2
          have HNC := Lib.hid (show (blt lb nx && !(blt lb la)) = beg lb la by rw [← HNX.out, HCA.out]; exact next_code lb (fun v hv => (HOK.out v hv).1) (by rw [← HCA.out]; intro e0; rw [e0] at HP; have := HP.out; simp at this; omega))
          rcases hy1 : blt lb nx with _ | _
          · rcases hy2 : blt lb la with _ | _
            · have HN1 := Lib.hid hy1
              have HN2 := Lib.hid hy2
              have HN3 := Lib.hid (show beg lb la = false by rw [← HNC.out, hy1, hy2]; rfl)
              clear hy1 hy2
              go_wp2_with (first | (go_at_call 16; (with_reducible refine (next_in A1 p c1 la nx r HNX.out HR.out HPS.out w2 W2 HA.out HW2.out).mono ?_); rintro e w3 ⟨A3, c3, rfl, hb3, hs3⟩; have HW3 := Lib.hid (on HW2.out hb3); have HA3 := Lib.hid (HA.out.below (on HW2.out hb3)); have HB3 := Lib.hid (HB.out.below (on HW2.out hb3)); have HS3 := Lib.hid hs3; clear hb3 hs3) | (go_at_call 14; (with_reducible refine (below_in A2 A3 q r c2 c3 lb nx false HN1.out w3 w3 HB3.out HS3.out (Below.refl _ _)).mono ?_); rintro e w4 ⟨rfl, hb4⟩; have HW4 := Lib.hid hb4; clear hb4) | (go_at_call 13; (with_reducible refine (begins_in A2 A1 q p c2 c1 lb la false HN3.out w3 w4 HB3.out HA3.out HW4.out).mono ?_); rintro e w6 ⟨rfl, hb6⟩; have HW6 := Lib.hid hb6; clear hb6) | (go_at_call 7; (with_reducible refine (works_in w3 w6 HW6.out).mono ?_); rintro e w7 ⟨rfl, hb7⟩; have HW7 := Lib.hid hb7; clear hb7))
              go_ret
              exact ⟨rfl, on (on HB2.out HW3.out) HW7.out⟩
            · have HN1 := Lib.hid hy1
              have HN2 := Lib.hid hy2
              have HN3 := Lib.hid (show beg lb la = false by rw [← HNC.out, hy1, hy2]; rfl)
              clear hy1 hy2
              go_wp2_with (first | (go_at_call 16; (with_reducible refine (next_in A1 p c1 la nx r HNX.out HR.out HPS.out w2 W2 HA.out HW2.out).mono ?_); rintro e w3 ⟨A3, c3, rfl, hb3, hs3⟩; have HW3 := Lib.hid (on HW2.out hb3); have HA3 := Lib.hid (HA.out.below (on HW2.out hb3)); have HB3 := Lib.hid (HB.out.below (on HW2.out hb3)); have HS3 := Lib.hid hs3; clear hb3 hs3) | (go_at_call 14; (with_reducible refine (below_in A2 A3 q r c2 c3 lb nx false HN1.out w3 w3 HB3.out HS3.out (Below.refl _ _)).mono ?_); rintro e w4 ⟨rfl, hb4⟩; have HW4 := Lib.hid hb4; clear hb4) | (go_at_call 13; (with_reducible refine (begins_in A2 A1 q p c2 c1 lb la false HN3.out w3 w4 HB3.out HA3.out HW4.out).mono ?_); rintro e w6 ⟨rfl, hb6⟩; have HW6 := Lib.hid hb6; clear hb6) | (go_at_call 7; (with_reducible refine (works_in w3 w6 HW6.out).mono ?_); rintro e w7 ⟨rfl, hb7⟩; have HW7 := Lib.hid hb7; clear hb7))
              go_ret
              exact ⟨rfl, on (on HB2.out HW3.out) HW7.out⟩
          · rcases hy2 : blt lb la with _ | _
            · exfalso; have := HNC.out; rw [hy1, hy2, HG2.out] at this; exact absurd this (by decide)
            · have HN1 := Lib.hid hy1
              have HN2 := Lib.hid hy2
              have HN3 := Lib.hid (show beg lb la = false by rw [← HNC.out, hy1, hy2]; rfl)
              clear hy1 hy2
              go_wp2_with (first | (go_at_call 16; (with_reducible refine (next_in A1 p c1 la nx r HNX.out HR.out HPS.out w2 W2 HA.out HW2.out).mono ?_); rintro e w3 ⟨A3, c3, rfl, hb3, hs3⟩; have HW3 := Lib.hid (on HW2.out hb3); have HA3 := Lib.hid (HA.out.below (on HW2.out hb3)); have HB3 := Lib.hid (HB.out.below (on HW2.out hb3)); have HS3 := Lib.hid hs3; clear hb3 hs3) | (go_at_call 14; (with_reducible refine (below_in A2 A3 q r c2 c3 lb nx true HN1.out w3 w3 HB3.out HS3.out (Below.refl _ _)).mono ?_); rintro e w4 ⟨rfl, hb4⟩; have HW4 := Lib.hid hb4; clear hb4) | (go_at_call 14; (with_reducible refine (below_in A2 A1 q p c2 c1 lb la true HN2.out w3 w4 HB3.out HA3.out HW4.out).mono ?_); rintro e w5 ⟨rfl, hb5⟩; have HW5 := Lib.hid hb5; clear hb5) | (go_at_call 13; (with_reducible refine (begins_in A2 A1 q p c2 c1 lb la false HN3.out w3 w5 HB3.out HA3.out HW5.out).mono ?_); rintro e w6 ⟨rfl, hb6⟩; have HW6 := Lib.hid hb6; clear hb6) | (go_at_call 7; (with_reducible refine (works_in w3 w6 HW6.out).mono ?_); rintro e w7 ⟨rfl, hb7⟩; have HW7 := Lib.hid hb7; clear hb7))
              go_ret
              exact ⟨rfl, on (on HB2.out HW3.out) HW7.out⟩
      · have t1 : decide ((k : Int) < (m : Int)) = false := decide_eq_false (by omega)
        have HLC := lcp_end2 HT.out (show k = us.length by omega) (by omega)
        have HG1 := Lib.hid (show beg la lb = true by rw [HCA.out, HCB.out]; exact back_short HLC)
        have tn : ((k : Int) == (n : Int)) = false := beq_no (by omega)
        have tm : ((k : Int) == (m : Int)) = true := beq_yes (by omega)
        have tp : ((p : Int) == 0) = false := beq_no (by have := HPP.out (by omega); omega)
        have hp0 := HPP.out (show 0 < n by omega)
        clear HLC
        go_wp2
        go_quiet (fail)
        have HWq := Lib.hid (below_drewN HW0.out nq)
        go_wp2_with (first | (go_at_call 13; (with_reducible refine (begins_in A1 A2 p q c1 c2 la lb true HG1.out w2 (wr.drewN nq) HA.out HB.out HWq.out).mono ?_); rintro e W1 ⟨rfl, hW1⟩; have HW1 := Lib.hid hW1; clear hW1))
        go_quiet (fail)
        have HW2 := Lib.hid (below_drewN HW1.out nq)
        have HWD : W1.drewN nq = W1.drewN nq := rfl
        clear HWD
        generalize W1.drewN nq = W2 at HW2 ⊢
        have HNC := Lib.hid (show (blt lb nx && !(blt lb la)) = beg lb la by rw [← HNX.out, HCA.out]; exact next_code lb (fun v hv => (HOK.out v hv).1) (by rw [← HCA.out]; intro e0; rw [e0] at HP; have := HP.out; simp at this; omega))
        rcases hy1 : blt lb nx with _ | _
        · rcases hy2 : blt lb la with _ | _
          · have HN1 := Lib.hid hy1
            have HN2 := Lib.hid hy2
            have HN3 := Lib.hid (show beg lb la = false by rw [← HNC.out, hy1, hy2]; rfl)
            clear hy1 hy2
            go_wp2_with (first | (go_at_call 16; (with_reducible refine (next_in A1 p c1 la nx r HNX.out HR.out HPS.out w2 W2 HA.out HW2.out).mono ?_); rintro e w3 ⟨A3, c3, rfl, hb3, hs3⟩; have HW3 := Lib.hid (on HW2.out hb3); have HA3 := Lib.hid (HA.out.below (on HW2.out hb3)); have HB3 := Lib.hid (HB.out.below (on HW2.out hb3)); have HS3 := Lib.hid hs3; clear hb3 hs3) | (go_at_call 14; (with_reducible refine (below_in A2 A3 q r c2 c3 lb nx false HN1.out w3 w3 HB3.out HS3.out (Below.refl _ _)).mono ?_); rintro e w4 ⟨rfl, hb4⟩; have HW4 := Lib.hid hb4; clear hb4) | (go_at_call 13; (with_reducible refine (begins_in A2 A1 q p c2 c1 lb la false HN3.out w3 w4 HB3.out HA3.out HW4.out).mono ?_); rintro e w6 ⟨rfl, hb6⟩; have HW6 := Lib.hid hb6; clear hb6) | (go_at_call 7; (with_reducible refine (works_in w3 w6 HW6.out).mono ?_); rintro e w7 ⟨rfl, hb7⟩; have HW7 := Lib.hid hb7; clear hb7))
            go_ret
            exact ⟨rfl, on (on HB2.out HW3.out) HW7.out⟩
          · have HN1 := Lib.hid hy1
            have HN2 := Lib.hid hy2
            have HN3 := Lib.hid (show beg lb la = false by rw [← HNC.out, hy1, hy2]; rfl)
            clear hy1 hy2
            go_wp2_with (first | (go_at_call 16; (with_reducible refine (next_in A1 p c1 la nx r HNX.out HR.out HPS.out w2 W2 HA.out HW2.out).mono ?_); rintro e w3 ⟨A3, c3, rfl, hb3, hs3⟩; have HW3 := Lib.hid (on HW2.out hb3); have HA3 := Lib.hid (HA.out.below (on HW2.out hb3)); have HB3 := Lib.hid (HB.out.below (on HW2.out hb3)); have HS3 := Lib.hid hs3; clear hb3 hs3) | (go_at_call 14; (with_reducible refine (below_in A2 A3 q r c2 c3 lb nx false HN1.out w3 w3 HB3.out HS3.out (Below.refl _ _)).mono ?_); rintro e w4 ⟨rfl, hb4⟩; have HW4 := Lib.hid hb4; clear hb4) | (go_at_call 13; (with_reducible refine (begins_in A2 A1 q p c2 c1 lb la false HN3.out w3 w4 HB3.out HA3.out HW4.out).mono ?_); rintro e w6 ⟨rfl, hb6⟩; have HW6 := Lib.hid hb6; clear hb6) | (go_at_call 7; (with_reducible refine (works_in w3 w6 HW6.out).mono ?_); rintro e w7 ⟨rfl, hb7⟩; have HW7 := Lib.hid hb7; clear hb7))
            go_ret
            exact ⟨rfl, on (on HB2.out HW3.out) HW7.out⟩
        · rcases hy2 : blt lb la with _ | _
          · have HN1 := Lib.hid hy1
            have HN2 := Lib.hid hy2
            have HN3 := Lib.hid (show beg lb la = true by rw [← HNC.out, hy1, hy2]; rfl)
            clear hy1 hy2
            go_wp2_with (first | (go_at_call 16; (with_reducible refine (next_in A1 p c1 la nx r HNX.out HR.out HPS.out w2 W2 HA.out HW2.out).mono ?_); rintro e w3 ⟨A3, c3, rfl, hb3, hs3⟩; have HW3 := Lib.hid (on HW2.out hb3); have HA3 := Lib.hid (HA.out.below (on HW2.out hb3)); have HB3 := Lib.hid (HB.out.below (on HW2.out hb3)); have HS3 := Lib.hid hs3; clear hb3 hs3) | (go_at_call 14; (with_reducible refine (below_in A2 A3 q r c2 c3 lb nx true HN1.out w3 w3 HB3.out HS3.out (Below.refl _ _)).mono ?_); rintro e w4 ⟨rfl, hb4⟩; have HW4 := Lib.hid hb4; clear hb4) | (go_at_call 14; (with_reducible refine (below_in A2 A1 q p c2 c1 lb la false HN2.out w3 w4 HB3.out HA3.out HW4.out).mono ?_); rintro e w5 ⟨rfl, hb5⟩; have HW5 := Lib.hid hb5; clear hb5) | (go_at_call 13; (with_reducible refine (begins_in A2 A1 q p c2 c1 lb la true HN3.out w3 w5 HB3.out HA3.out HW5.out).mono ?_); rintro e w6 ⟨rfl, hb6⟩; have HW6 := Lib.hid hb6; clear hb6) | (go_at_call 7; (with_reducible refine (works_in w3 w6 HW6.out).mono ?_); rintro e w7 ⟨rfl, hb7⟩; have HW7 := Lib.hid hb7; clear hb7))
            go_ret
            exact ⟨rfl, on (on HB2.out HW3.out) HW7.out⟩
          · have HN1 := Lib.hid hy1
            have HN2 := Lib.hid hy2
            have HN3 := Lib.hid (show beg lb la = false by rw [← HNC.out, hy1, hy2]; rfl)
            clear hy1 hy2
            go_wp2_with (first | (go_at_call 16; (with_reducible refine (next_in A1 p c1 la nx r HNX.out HR.out HPS.out w2 W2 HA.out HW2.out).mono ?_); rintro e w3 ⟨A3, c3, rfl, hb3, hs3⟩; have HW3 := Lib.hid (on HW2.out hb3); have HA3 := Lib.hid (HA.out.below (on HW2.out hb3)); have HB3 := Lib.hid (HB.out.below (on HW2.out hb3)); have HS3 := Lib.hid hs3; clear hb3 hs3) | (go_at_call 14; (with_reducible refine (below_in A2 A3 q r c2 c3 lb nx true HN1.out w3 w3 HB3.out HS3.out (Below.refl _ _)).mono ?_); rintro e w4 ⟨rfl, hb4⟩; have HW4 := Lib.hid hb4; clear hb4) | (go_at_call 14; (with_reducible refine (below_in A2 A1 q p c2 c1 lb la true HN2.out w3 w4 HB3.out HA3.out HW4.out).mono ?_); rintro e w5 ⟨rfl, hb5⟩; have HW5 := Lib.hid hb5; clear hb5) | (go_at_call 13; (with_reducible refine (begins_in A2 A1 q p c2 c1 lb la false HN3.out w3 w5 HB3.out HA3.out HW5.out).mono ?_); rintro e w6 ⟨rfl, hb6⟩; have HW6 := Lib.hid hb6; clear hb6) | (go_at_call 7; (with_reducible refine (works_in w3 w6 HW6.out).mono ?_); rintro e w7 ⟨rfl, hb7⟩; have HW7 := Lib.hid hb7; clear hb7))
            go_ret
            exact ⟨rfl, on (on HB2.out HW3.out) HW7.out⟩
    · have hkn : k = n := by omega
      have t0 : decide ((k : Int) < (n : Int)) = false := decide_eq_false (by omega)
      have HLC := lcp_end HT.out (show k = vs.length by omega) (by omega)
      have HG2 := Lib.hid (show beg lb la = true by rw [HCA.out, HCB.out]; exact front_short HLC)
      have tn : ((k : Int) == (n : Int)) = true := beq_yes (by omega)
      have HKM := Lib.hid (show k = m → beg la lb = true from fun e => by rw [HCA.out, HCB.out]; exact back_short (by rw [HLC]; omega))
      clear HLC
      by_cases hkm : k = m
      · have HG1 := Lib.hid (HKM.out hkm)
        have tm : ((k : Int) == (m : Int)) = true := beq_yes (by omega)
        by_cases h0 : n = 0
        · have HP0 := Lib.hid (show la = [] by
            rw [HCA.out]
            have : vs = [] := List.eq_nil_of_length_eq_zero (by omega)
            subst this; rfl)
          have hp0 : p = 0 := by have := HP.out; rw [HP0.out] at this; exact this.symm
          have hr0 : r = 0 := by have := HR.out; rw [← HNX.out, HP0.out] at this; exact this.symm
          subst hp0 hr0
          clear h0 hkn hkm
          go_wp2
          go_quiet (fail)
          have HWq := Lib.hid (below_drewN HW0.out nq)
          generalize wr.drewN nq = wq at HWq ⊢
          go_wp2_with (first | (go_at_call 13; (with_reducible refine (begins_in A2 A1 q 0 c2 c1 lb la true HG2.out w2 wq HB.out HA.out HWq.out).mono ?_); rintro e W0 ⟨rfl, hW0⟩; have HW0a := Lib.hid hW0; clear hW0) | (go_at_call 13; (with_reducible refine (begins_in A1 A2 0 q c1 c2 la lb true HG1.out w2 W0 HA.out HB.out HW0a.out).mono ?_); rintro e W1 ⟨rfl, hW1⟩; have HW1 := Lib.hid hW1; clear hW1))
          go_quiet (fail)
          have HW2 := Lib.hid (below_drewN HW1.out nq)
          generalize W1.drewN nq = W2 at HW2 ⊢
          go_wp2_with (first | (go_at_call 16; (with_reducible refine (next_in A1 0 c1 la nx 0 HNX.out HR.out HPS.out w2 W2 HA.out HW2.out).mono ?_); rintro e w3 ⟨A3, c3, rfl, hb3, hs3⟩; have HW3 := Lib.hid (on HW2.out hb3); have HA3 := Lib.hid (HA.out.below (on HW2.out hb3)); have HB3 := Lib.hid (HB.out.below (on HW2.out hb3)); have HS3 := Lib.hid hs3; clear hb3 hs3) | (go_at_call 7; (with_reducible refine (works_in w3 w3 (Below.refl _ _)).mono ?_); rintro e w7 ⟨rfl, hb7⟩; have HW7 := Lib.hid hb7; clear hb7))
          go_ret
          exact ⟨rfl, on (on HB2.out HW3.out) HW7.out⟩
        · have hp0 := HPP.out (show 0 < n by omega)
          have tp : ((p : Int) == 0) = false := beq_no (by omega)
          clear hkn hkm
          go_wp2
          go_quiet (fail)
          have HWq := Lib.hid (below_drewN HW0.out nq)
          generalize wr.drewN nq = wq at HWq ⊢
          go_wp2_with (first | (go_at_call 13; (with_reducible refine (begins_in A2 A1 q p c2 c1 lb la true HG2.out w2 wq HB.out HA.out HWq.out).mono ?_); rintro e W0 ⟨rfl, hW0⟩; have HW0a := Lib.hid hW0; clear hW0) | (go_at_call 13; (with_reducible refine (begins_in A1 A2 p q c1 c2 la lb true HG1.out w2 W0 HA.out HB.out HW0a.out).mono ?_); rintro e W1 ⟨rfl, hW1⟩; have HW1 := Lib.hid hW1; clear hW1))
          go_quiet (fail)
          have HW2 := Lib.hid (below_drewN HW1.out nq)
          generalize W1.drewN nq = W2 at HW2 ⊢
          have HNC := Lib.hid (show (blt lb nx && !(blt lb la)) = beg lb la by rw [← HNX.out, HCA.out]; exact next_code lb (fun v hv => (HOK.out v hv).1) (by rw [← HCA.out]; intro e0; rw [e0] at HP; have := HP.out; simp at this; omega))
          rcases hy1 : blt lb nx with _ | _
          · rcases hy2 : blt lb la with _ | _
            · exfalso; have := HNC.out; rw [hy1, hy2, HG2.out] at this; exact absurd this (by decide)
            · exfalso; have := HNC.out; rw [hy1, hy2, HG2.out] at this; exact absurd this (by decide)
          · rcases hy2 : blt lb la with _ | _
            · have HN1 := Lib.hid hy1
              have HN2 := Lib.hid hy2
              have HN3 := Lib.hid (show beg lb la = true by rw [← HNC.out, hy1, hy2]; rfl)
              clear hy1 hy2
              go_wp2_with (first | (go_at_call 16; (with_reducible refine (next_in A1 p c1 la nx r HNX.out HR.out HPS.out w2 W2 HA.out HW2.out).mono ?_); rintro e w3 ⟨A3, c3, rfl, hb3, hs3⟩; have HW3 := Lib.hid (on HW2.out hb3); have HA3 := Lib.hid (HA.out.below (on HW2.out hb3)); have HB3 := Lib.hid (HB.out.below (on HW2.out hb3)); have HS3 := Lib.hid hs3; clear hb3 hs3) | (go_at_call 14; (with_reducible refine (below_in A2 A3 q r c2 c3 lb nx true HN1.out w3 w3 HB3.out HS3.out (Below.refl _ _)).mono ?_); rintro e w4 ⟨rfl, hb4⟩; have HW4 := Lib.hid hb4; clear hb4) | (go_at_call 14; (with_reducible refine (below_in A2 A1 q p c2 c1 lb la false HN2.out w3 w4 HB3.out HA3.out HW4.out).mono ?_); rintro e w5 ⟨rfl, hb5⟩; have HW5 := Lib.hid hb5; clear hb5) | (go_at_call 13; (with_reducible refine (begins_in A2 A1 q p c2 c1 lb la true HN3.out w3 w5 HB3.out HA3.out HW5.out).mono ?_); rintro e w6 ⟨rfl, hb6⟩; have HW6 := Lib.hid hb6; clear hb6) | (go_at_call 7; (with_reducible refine (works_in w3 w6 HW6.out).mono ?_); rintro e w7 ⟨rfl, hb7⟩; have HW7 := Lib.hid hb7; clear hb7))
              go_ret
              exact ⟨rfl, on (on HB2.out HW3.out) HW7.out⟩
            · exfalso; have := HNC.out; rw [hy1, hy2, HG2.out] at this; exact absurd this (by decide)
      · have tm : ((k : Int) == (m : Int)) = false := beq_no (by omega)
        by_cases h0 : n = 0
        · have HP0 := Lib.hid (show la = [] by
            rw [HCA.out]
            have : vs = [] := List.eq_nil_of_length_eq_zero (by omega)
            subst this; rfl)
          have hp0 : p = 0 := by have := HP.out; rw [HP0.out] at this; exact this.symm
          have hr0 : r = 0 := by have := HR.out; rw [← HNX.out, HP0.out] at this; exact this.symm
          subst hp0 hr0
          clear h0 hkn hkm
          go_wp2
          go_quiet (fail)
          have HWq := Lib.hid (below_drewN HW0.out nq)
          generalize wr.drewN nq = wq at HWq ⊢
          go_wp2_with (first | (go_at_call 13; (with_reducible refine (begins_in A2 A1 q 0 c2 c1 lb la true HG2.out w2 wq HB.out HA.out HWq.out).mono ?_); rintro e W0 ⟨rfl, hW0⟩; have HW0a := Lib.hid hW0; clear hW0))
          go_quiet (fail)
          have HW2 := Lib.hid (below_drewN HW0a.out nq)
          generalize W0.drewN nq = W2 at HW2 ⊢
          go_wp2_with (first | (go_at_call 16; (with_reducible refine (next_in A1 0 c1 la nx 0 HNX.out HR.out HPS.out w2 W2 HA.out HW2.out).mono ?_); rintro e w3 ⟨A3, c3, rfl, hb3, hs3⟩; have HW3 := Lib.hid (on HW2.out hb3); have HA3 := Lib.hid (HA.out.below (on HW2.out hb3)); have HB3 := Lib.hid (HB.out.below (on HW2.out hb3)); have HS3 := Lib.hid hs3; clear hb3 hs3) | (go_at_call 7; (with_reducible refine (works_in w3 w3 (Below.refl _ _)).mono ?_); rintro e w7 ⟨rfl, hb7⟩; have HW7 := Lib.hid hb7; clear hb7))
          go_ret
          exact ⟨rfl, on (on HB2.out HW3.out) HW7.out⟩
        · have hp0 := HPP.out (show 0 < n by omega)
          have tp : ((p : Int) == 0) = false := beq_no (by omega)
          clear hkn hkm
          go_wp2
          go_quiet (fail)
          have HWq := Lib.hid (below_drewN HW0.out nq)
          generalize wr.drewN nq = wq at HWq ⊢
          go_wp2_with (first | (go_at_call 13; (with_reducible refine (begins_in A2 A1 q p c2 c1 lb la true HG2.out w2 wq HB.out HA.out HWq.out).mono ?_); rintro e W0 ⟨rfl, hW0⟩; have HW0a := Lib.hid hW0; clear hW0))
          go_quiet (fail)
          have HW2 := Lib.hid (below_drewN HW0a.out nq)
          generalize W0.drewN nq = W2 at HW2 ⊢
          have HNC := Lib.hid (show (blt lb nx && !(blt lb la)) = beg lb la by rw [← HNX.out, HCA.out]; exact next_code lb (fun v hv => (HOK.out v hv).1) (by rw [← HCA.out]; intro e0; rw [e0] at HP; have := HP.out; simp at this; omega))
          rcases hy1 : blt lb nx with _ | _
          · rcases hy2 : blt lb la with _ | _
            · exfalso; have := HNC.out; rw [hy1, hy2, HG2.out] at this; exact absurd this (by decide)
            · exfalso; have := HNC.out; rw [hy1, hy2, HG2.out] at this; exact absurd this (by decide)
          · rcases hy2 : blt lb la with _ | _
            · have HN1 := Lib.hid hy1
              have HN2 := Lib.hid hy2
              have HN3 := Lib.hid (show beg lb la = true by rw [← HNC.out, hy1, hy2]; rfl)
              clear hy1 hy2
              go_wp2_with (first | (go_at_call 16; (with_reducible refine (next_in A1 p c1 la nx r HNX.out HR.out HPS.out w2 W2 HA.out HW2.out).mono ?_); rintro e w3 ⟨A3, c3, rfl, hb3, hs3⟩; have HW3 := Lib.hid (on HW2.out hb3); have HA3 := Lib.hid (HA.out.below (on HW2.out hb3)); have HB3 := Lib.hid (HB.out.below (on HW2.out hb3)); have HS3 := Lib.hid hs3; clear hb3 hs3) | (go_at_call 14; (with_reducible refine (below_in A2 A3 q r c2 c3 lb nx true HN1.out w3 w3 HB3.out HS3.out (Below.refl _ _)).mono ?_); rintro e w4 ⟨rfl, hb4⟩; have HW4 := Lib.hid hb4; clear hb4) | (go_at_call 14; (with_reducible refine (below_in A2 A1 q p c2 c1 lb la false HN2.out w3 w4 HB3.out HA3.out HW4.out).mono ?_); rintro e w5 ⟨rfl, hb5⟩; have HW5 := Lib.hid hb5; clear hb5) | (go_at_call 13; (with_reducible refine (begins_in A2 A1 q p c2 c1 lb la true HN3.out w3 w5 HB3.out HA3.out HW5.out).mono ?_); rintro e w6 ⟨rfl, hb6⟩; have HW6 := Lib.hid hb6; clear hb6) | (go_at_call 7; (with_reducible refine (works_in w3 w6 HW6.out).mono ?_); rintro e w7 ⟨rfl, hb7⟩; have HW7 := Lib.hid hb7; clear hb7))
              go_ret
              exact ⟨rfl, on (on HB2.out HW3.out) HW7.out⟩
            · exfalso; have := HNC.out; rw [hy1, hy2, HG2.out] at this; exact absurd this (by decide)
end Go.Proofs.Ytledpmpfckeejaa.Key
