import Derived.Test.YtjlfacmmokfleaaBtAsk
import Derived.Test.YtjlfacmmokfleaaRefBytes
import Derived.Deep.QuietTactic
import Derived.BigQuiet
import Derived.Test.YtjlfacmmokfleaaBtApp
import Derived.Test.YtjlfacmmokfleaaBtTells
import Derived.Maps.AppendAt
import Derived.Test.YtjlfacmmokfleaaBtFind
import Derived.Test.YtjlfacmmokfleaaBtUser
import Derived.Test.YtjlfacmmokfleaaBtPut
/- Bytes ahead of others: what the document's Below of layer 4 answers. -/
namespace Go.Proofs.Ytjlfacmmokfleaa.Bt
open Go.RowKit Go.Proofs.Ytjlfacmmokfleaa.Mem Go.Proofs.Ytjlfacmmokfleaa.Right
set_option linter.unusedVariables false

theorem u8_eq {c d : UInt8} (h : ¬ c = d) : ¬ (c.toNat : Int) = (d.toNat : Int) := fun e => h (UInt8.toNat_inj.1 (by omega))
theorem klt_nil (a : List UInt8) : klt a [] = false := by cases a <;> rfl
theorem klt_same (c : UInt8) (x y : List UInt8) : klt (c :: x) (c :: y) = klt x y := by
  have h : ¬ c < c := by simp
  simp [klt, h]
theorem klt_other {c d : UInt8} (h : c ≠ d) (x y : List UInt8) : klt (c :: x) (d :: y) = decide (c.toNat < d.toNat) := by
  simp only [klt]
  by_cases h1 : c < d
  · rw [if_pos h1, decide_eq_true (UInt8.lt_iff_toNat_lt.1 h1)]
  · rw [if_neg h1, decide_eq_false (fun e => h1 (UInt8.lt_iff_toNat_lt.2 e)), if_pos]
    rw [UInt8.lt_iff_toNat_lt] at h1 ⊢
    have : c.toNat ≠ d.toNat := fun e => h (UInt8.toNat_inj.1 e)
    omega
theorem klt_app (p x y : List UInt8) : klt (p ++ x) (p ++ y) = klt x y := by
  induction p with
  | nil => rfl
  | cons c r ih => rw [List.cons_append, List.cons_append, klt_same, ih]
theorem split_at {l r : List UInt8} {k : Nat} (h : l.take k = r.take k) : klt l r = klt (l.drop k) (r.drop k) := by
  conv => lhs; rw [← List.take_append_drop k l, ← List.take_append_drop k r, h]
  exact klt_app _ _ _
theorem below_at {l r : List UInt8} {k : Nat} {c d : UInt8} (h : l.take k = r.take k) (h1 : l[k]? = some c) (h2 : r[k]? = some d) (e : ¬ c = d) : klt l r = decide (c.toNat < d.toNat) := by
  obtain ⟨hk1, e1⟩ := List.getElem?_eq_some_iff.1 h1
  obtain ⟨hk2, e2⟩ := List.getElem?_eq_some_iff.1 h2
  rw [split_at h, List.drop_eq_getElem_cons hk1, List.drop_eq_getElem_cons hk2, e1, e2, klt_other e]
theorem below_end {l r : List UInt8} {k : Nat} (h : l.take k = r.take k) (hk : k = l.length ∨ k = r.length) (h1 : k ≤ l.length) (h2 : k ≤ r.length) : klt l r = decide (l.length < r.length) := by
  rw [split_at h]
  by_cases hr : k = r.length
  · rw [show r.drop k = [] from List.drop_eq_nil_of_le (by omega), klt_nil, decide_eq_false (by omega)]
  · rw [show l.drop k = [] from List.drop_eq_nil_of_le (by omega), decide_eq_true (by omega)]
    match hd : r.drop k with
    | [] => have := congrArg List.length hd; simp at this; omega
    | c :: t => rfl

set_option maxHeartbeats 1000000 in
theorem below_any (A C : Option Addr) (n m ca cb : Nat) (l r : List UInt8) (w : World) (hn : n ≤ l.length) (hn' : l.length ≤ n) (hm : m ≤ r.length) (hm' : r.length ≤ m) (hN : n ≤ 9223372036854775807) (hM : m ≤ 9223372036854775807)
    (h1 : Row w w.heap.size A (bys l)) (h2 : Row w w.heap.size C (bys r)) :
    Calls Try.prog 35 #[.slice A n ca, .slice C m cb] w fun e w' => e = .returned (.bool (klt l r)) ∧ Below w.heap.size w w' := by
  have H1 := Lib.hid h1
  have H2 := Lib.hid h2
  clear h1 h2
  go_enter Try.func35, Try.ntmps35
  go_wp2
  go_loopw [5] (fun i wr => ∃ k : Nat, k ≤ n ∧ k ≤ m ∧ i = .int .i64 k ∧ Hid (l.take k = r.take k) ∧ Hid (Below w.heap.size w wr)) (fun i _ => n - (intOf i).toNat)
  case atStart => exact ⟨0, Nat.zero_le _, Nat.zero_le _, rfl, Lib.hid rfl, Lib.hid (Below.refl _ _)⟩
  case round =>
    obtain ⟨k, hk, hk', rfl, HT, HB⟩ := hrel
    by_cases hlt : k < n
    · have t0 : decide ((k : Int) < (n : Int)) = true := decide_eq_true (by omega)
      by_cases hlm : k < m
      · obtain ⟨b, o, c, rfl, hb, hc, hcell⟩ := (H1.out.below HB.out (Nat.le_refl _)).byte (k := k) (by omega)
        obtain ⟨b', o', d, rfl, hb', hd, hcell'⟩ := (H2.out.below HB.out (Nat.le_refl _)).byte (k := k) (by omega)
        have HC := Lib.hid hc
        have HD := Lib.hid hd
        clear hc hd
        have hlt' : (k : Int) < (n : Int) := by omega
        have hlm' : (k : Int) < (m : Int) := by omega
        by_cases e : c = d
        · subst e
          have HS := Lib.hid (Refs.same_more HC.out HD.out HT.out)
          go_wp2
          go_quiet (fail)
          go_wp2
          go_roundw
          case rel => exact ⟨k + 1, by omega, by omega, by go_num, HS, Lib.hid (below_drewN HB.out _)⟩
          case measure => simp [intOf]; omega
        · have HS := Lib.hid (below_at HT.out HC.out HD.out e)
          have t1 := bne_yes (u8_eq e)
          have t2 := beq_no (u8_eq e)
          clear e
          by_cases hcd : c.toNat < d.toNat
          · have HV := Lib.hid (HS.out.trans (decide_eq_true hcd))
            have t3 : decide ((c.toNat : Int) < (d.toNat : Int)) = true := decide_eq_true (by omega)
            go_wp2
            go_quiet (fail)
            go_wp2
            go_quiet (fail)
            go_wp2
            go_ret
            exact ⟨rb HV.out.symm, below_drewN (below_drewN HB.out _) _⟩
          · have HV := Lib.hid (HS.out.trans (decide_eq_false hcd))
            have t3 : decide ((c.toNat : Int) < (d.toNat : Int)) = false := decide_eq_false (by omega)
            go_wp2
            go_quiet (fail)
            go_wp2
            go_quiet (fail)
            go_wp2
            go_ret
            exact ⟨rb HV.out.symm, below_drewN (below_drewN HB.out _) _⟩
      · have HV := Lib.hid (show klt l r = decide (n < m) from (below_end HT.out (.inr (by omega)) (by omega) (by omega)).trans (decide_eq_decide.2 (by omega)))
        go_wp2
        go_ret
        exact ⟨rb HV.out.symm, HB.out⟩
    · have hkn : k = l.length := by omega
      by_cases hlm : n < m
      · have HV := Lib.hid ((below_end HT.out (.inl hkn) (by omega) (by omega)).trans (decide_eq_true (by omega)))
        have t3 : decide ((n : Int) < (m : Int)) = true := decide_eq_true (by omega)
        clear hkn
        go_wp2
        go_ret
        exact ⟨rb HV.out.symm, HB.out⟩
      · have HV := Lib.hid ((below_end HT.out (.inl hkn) (by omega) (by omega)).trans (decide_eq_false (by omega)))
        have t3 : decide ((n : Int) < (m : Int)) = false := decide_eq_false (by omega)
        clear hkn
        go_wp2
        go_ret
        exact ⟨rb HV.out.symm, HB.out⟩
theorem below_in (A C : Option Addr) (n m ca cb : Nat) (l r : List UInt8) (x : Bool) (hx : klt l r = x) (w0 W : World) (h1 : Bs w0 A n ca l) (h2 : Bs w0 C m cb r) (hW : Below w0.heap.size w0 W) :
    Calls Try.prog 35 #[.slice A n ca, .slice C m cb] W fun e w' => e = .returned (.bool x) ∧ Below w0.heap.size w0 w' := by
  obtain ⟨a1, a2, a3, a4⟩ := h1.below hW
  obtain ⟨b1, b2, b3, b4⟩ := h2.below hW
  exact (below_any A C n m ca cb l r W (by omega) (by omega) (by omega) (by omega) (by omega) (by omega) a1 b1).mono fun _ _ ⟨a, b⟩ => ⟨by rw [a, hx], Mem.on hW b⟩
end Go.Proofs.Ytjlfacmmokfleaa.Bt
/- A part of a list behind a list, whatever an element's size: append as a step of a walk. -/
namespace Go.Proofs.Ytjlfacmmokfleaa.Bt
open Go.RowKit Go.Proofs.Ytjlfacmmokfleaa.Mem Go.Proofs.Ytjlfacmmokfleaa.Right
set_option linter.unusedVariables false

section
variable {P : Program} {t e : TypeId} {k bytes : Nat}
/-- A value that reads as these cells. -/
def Src (w : World) (k : Nat) (y : Value) (m : Nat) (us : List Value) : Prop := (∃ c, y = .slice none 0 c ∧ m = 0 ∧ us = []) ∨ ∃ p c, y = .slice (some p) m c ∧ us.length = m * k ∧ ∀ j u, us[j]? = some u → w.cell? (p.add j) = some u
theorem run_append_part (E : ElemN P t e k bytes) {w : World} (ty : TypeId) {B : Nat} {v y : Value} {n m : Nat} {xs us : List Value} (h : w.ownsRow B e k v n xs) (hy : Src w k y m us) (h1 : ∀ u ∈ us, u.oneCell' = true) (hn : (n + m) * bytes ≤ 140737488355328) (hn2 : n + m ≤ 1000000) (hB : B ≤ w.heap.size) :
    ∃ A c w', (Builtin.append_ #[t, t] ty #[v, y]).run P w = .ok (.slice A (n + m) c) w' ∧ w'.ownsRow B e k (.slice A (n + m) c) (n + m) (xs ++ us) ∧ w.grownBy w' v.ownBlock ∧ ((Value.slice A (n + m) c).ownBlock = v.ownBlock ∨ NewRow w.heap.size (.slice A (n + m) c)) := by
  obtain ⟨i, z, ht, hi, hz, hz1, hz2, hzc, hk⟩ := E
  rcases hy with ⟨cy, rfl, rfl, rfl⟩ | ⟨p, cy, rfl, hul, hcell⟩
  · obtain ⟨A, c, rfl, hnc, _⟩ := form_own h
    refine ⟨A, c, w, ?_, by rw [Nat.add_zero, List.append_nil]; exact h, grown_refl _ _, .inl rfl⟩
    have hle : n ≤ c := hnc
    cases A with
    | none => simp [Builtin.append_, run_underlying ht, sizeOf, typeInfo, hi, Builtin.lenOf, Builtin.firstCells, hle]
    | some a => simp [Builtin.append_, run_underlying ht, sizeOf, typeInfo, hi, Builtin.lenOf, Builtin.firstCells, hle, storeCells]
  · obtain ⟨v', w', hr, h2, h3, _, h5⟩ := run_append_own_at (P := P) w B t ty e i z k bytes ht hi hz hz1 hz2 hzc hk v n xs h p m cy us hul hcell h1 (by unfold maxLen; omega) hn hB
    obtain ⟨A, c', rfl, _⟩ := form_own h2
    exact ⟨A, c', w', hr, h2, h3, h5.imp id (fun e g hg => by rw [e] at hg; injection hg with hg; omega)⟩
theorem wp_part {w : World} {ops : Array Oper} {rest : List Oper} {o : Oper} {a : Act} {Q : Exit → Act → World → Prop} (E : ElemN P t e k bytes) (d s : Operand) (hgd : o.guard = none)
    (ho : o.op = .call { callee := .builtin .append, args := #[d, s], argTypes := #[t, t] }) {B : Nat} {v y : Value} {n m : Nat} {xs us : List Value} (hd : a.eval d = v) (hs : a.eval s = y) (h : w.ownsRow B e k v n xs) (hy : Src w k y m us) (h1 : ∀ u ∈ us, u.oneCell' = true) (hn : (n + m) * bytes ≤ 140737488355328) (hn2 : n + m ≤ 1000000) (hB : B ≤ w.heap.size) (r : Nat) (hr : n + m = r)
    (hK : ∀ A c w', w'.ownsRow B e k (.slice A r c) r (xs ++ us) → w.grownBy w' v.ownBlock → ((Value.slice A r c).ownBlock = v.ownBlock ∨ NewRow w.heap.size (.slice A r c)) → wpList P ops Q rest (a.put o.dst (.slice A r c)) w') : wpList P ops Q (o :: rest) a w := by
  subst hr
  obtain ⟨A, c, w', hr, h2, h3, h4⟩ := run_append_part E o.type h hy h1 hn hn2 hB
  refine wpList_plain hgd fun K hK' => ?_
  unfold Oper.wp
  simp [execOp, ho, resolve, invoke, builtin, hd, hs, hr, Result.andThen]
  exact hK' _ _ (hK A c w' h2 h3 h4)
theorem src_take {w : World} {B n i : Nat} {v : Value} {us : List Value} (h : w.ownsRow B e k v n us) (hi : i ≤ n) : ∃ A c, v = .slice A n c ∧ n ≤ c ∧ ∀ w', Below w.heap.size w w' → Src w' k (.slice A i c) i (us.take (i * k)) := by
  obtain ⟨A, c, ev, hnc, _⟩ := form_own h
  refine ⟨A, c, ev, hnc, fun w' hw => ?_⟩
  have h' := own_below h hw
  rcases h'.2 with ⟨rfl, rfl⟩ | ⟨g, cap, cur, e2, hb, hh, rest⟩
  · injection ev with e1 e2 e3
    subst e1 e3
    have hu : us = [] := List.eq_nil_of_length_eq_zero (by have := h.1; omega)
    subst hu
    exact .inl ⟨0, by rw [show i = 0 by omega], by omega, by simp⟩
  · rw [ev] at e2
    injection e2 with e1 _ e3
    subst e1 e3
    refine .inr ⟨⟨g, 0, none⟩, c, rfl, by rw [List.length_take, h.1]; exact Nat.min_eq_left (Nat.mul_le_mul_right k hi), fun j u hj => ?_⟩
    rw [List.getElem?_take] at hj
    split at hj
    · subst ev
      obtain ⟨g2, c2, ev2, _, hc, _⟩ := cell_own h' hj
      injection ev2 with e1 _ _
      injection e1 with e1
      injection e1 with e1
      subst e1
      have e2 : (⟨g, 0, none⟩ : Addr).add j = ⟨g, j, none⟩ := by unfold Addr.add; split <;> simp_all
      rw [e2]; exact hc
    · cases hj
/-- What a part from a place on reads as. -/
theorem src_drop (E : ElemN P t e k bytes) {w : World} {B n i : Nat} {v : Value} {us : List Value} (h : w.ownsRow B e k v n us) (hi : i ≤ n) : ∃ A c A2 c2, v = .slice A n c ∧ n ≤ c ∧ (∀ w' : World, (Instr.sliceAt t (.slice A n c) (some (.int .i64 (i : Int))) none none).run P w' = .ok (.slice A2 (n - i) c2) w') ∧ ∀ w', Below w.heap.size w w' → Src w' k (.slice A2 (n - i) c2) (n - i) (us.drop (i * k)) := by
  obtain ⟨A, c, ev, hnc, _⟩ := form_own h
  obtain ⟨A2, hA2, hrun⟩ := slice_any E A n c i hi hnc
  refine ⟨A, c, A2, c - i, ev, hnc, hrun, fun w' hw => ?_⟩
  have h' := own_below h hw
  by_cases hin : i = n
  · subst hin
    have hd : us.drop (i * k) = [] := List.drop_eq_nil_of_le (by rw [h.1]; exact Nat.le_refl _)
    rw [hd, Nat.sub_self]
    cases A2 with
    | none => exact .inl ⟨_, rfl, rfl, rfl⟩
    | some p => exact .inr ⟨p, _, rfl, by simp, fun j u hj => by simp at hj⟩
  · rcases h'.2 with ⟨rfl, rfl⟩ | ⟨g, cap, cur, e2, hb, hh, rest⟩
    · omega
    · rw [ev] at e2
      injection e2 with e1 _ e3
      subst e3
      have := hA2 g e1 (by omega)
      subst this
      subst e1
      refine .inr ⟨⟨g, i * k, none⟩, _, rfl, by rw [List.length_drop, h.1, Nat.sub_mul], fun j u hj => ?_⟩
      rw [List.getElem?_drop] at hj
      subst ev
      obtain ⟨g2, c2, ev2, _, hc, _⟩ := cell_own h' hj
      injection ev2 with e1 _ _
      injection e1 with e1
      injection e1 with e1
      subst e1
      have e2 : (⟨g, i * k, none⟩ : Addr).add j = ⟨g, i * k + j, none⟩ := by unfold Addr.add; split <;> simp_all
      rw [e2]; exact hc
end
end Go.Proofs.Ytjlfacmmokfleaa.Bt
/- The document's tree: a list of pairs; where a pair stands in it. -/
namespace Go.Proofs.Ytjlfacmmokfleaa.Bt
open Go.RowKit Go.Proofs.Ytjlfacmmokfleaa.Mem Go.Proofs.Ytjlfacmmokfleaa.Right
set_option linter.unusedVariables false

abbrev tR : TypeId := 28
abbrev tRP : TypeId := 56
abbrev tRPs : TypeId := 26
theorem infoRP : (Try.prog.info? tRP).map (fun i => (i.zero, i.size, i.bytes)) = some (some (.agg #[.slice none 0 0, .int .i64 0]), 2, 32) := by kernel_rfl
theorem elemRP : ElemN Try.prog tRPs tRP 2 32 := ElemN.of Try.underlying26 infoRP rfl (by decide)
/-- The document's tree at block rb has these pairs. -/
structure RT (w : World) (n₀ rb : Nat) (v : Value) (L : List Pr) : Prop where
  cel : Cel w rb tR #[v]
  own : w.ownsRow n₀ tRP 2 v L.length (cellsP L)
  keys : ∀ r ∈ L, Key w r
  sorted : Sorted L
  rb_ : n₀ ≤ rb
theorem RT.below {w w' : World} {n₀ rb : Nat} {v : Value} {L : List Pr} (h : RT w n₀ rb v L) (hb : Below w.heap.size w w') : RT w' n₀ rb v L :=
  ⟨h.cel.below hb, own_below h.own hb, fun r hr => (h.keys r hr).below hb, h.sorted, h.rb_⟩
theorem RT.pair {w : World} {n₀ rb : Nat} {v : Value} {L : List Pr} (h : RT w n₀ rb v L) {k : Nat} {r : Pr} (hk : L[k]? = some r) :
    ∃ g c, v = .slice (some ⟨g, 0, none⟩) L.length c ∧ Key w r ∧ ∀ W, Below w.heap.size w W → W.cell? ⟨rb, 0, none⟩ = some (.slice (some ⟨g, 0, none⟩) L.length c) ∧ W.cell? ⟨g, k * 2, none⟩ = some (.slice r.a r.key.length r.c) ∧ W.cell? ⟨g, k * 2 + 1, none⟩ = some (.int .i64 r.num) := by
  obtain ⟨e1, e2⟩ := cellsP_at hk
  obtain ⟨g, c, e, hg, hc, _⟩ := cell_own h.own e1
  obtain ⟨g2, c2, e', _, hc2, _⟩ := cell_own h.own e2
  rw [e] at e'
  injection e' with e3 _ _
  injection e3 with e3
  injection e3 with e3
  subst e3
  refine ⟨g, c, e, h.keys r (List.mem_of_getElem? hk), fun W hW => ⟨?_, (hW.cell (p := ⟨g, k * 2, none⟩) hg).trans hc, (hW.cell (p := ⟨g, k * 2 + 1, none⟩) hg).trans hc2⟩⟩
  rw [(h.cel.below hW).at_ 0, e]; rfl
theorem lo_at {L : List Pr} {k : Nat} {p : Kn} (h : ∀ x ∈ L.take k, ltb x.k p = true) (h2 : ∀ x, L[k]? = some x → ltb x.k p = false) (hk : k ≤ L.length) : (lo p L).length = k := by
  have e : lo p L = L.take k := by
    unfold lo
    conv => lhs; rw [← List.take_append_drop k L]
    rw [List.takeWhile_append_of_pos h]
    have : (L.drop k).takeWhile (fun x => ltb x.k p) = [] := by
      cases e : L.drop k with
      | nil => rfl
      | cons x t =>
        have : L[k]? = some x := by rw [← List.head?_drop, e]; rfl
        rw [List.takeWhile_cons, h2 x this]; rfl
    rw [this, List.append_nil]
  rw [e, List.length_take_of_le hk]
theorem take_lt {L : List Pr} {k : Nat} {p : Kn} {r : Pr} (h : ∀ x ∈ L.take k, ltb x.k p = true) (hr : L[k]? = some r) (h2 : ltb r.k p = true) : ∀ x ∈ L.take (k + 1), ltb x.k p = true := by
  intro x hx
  rw [List.take_add_one, hr] at hx
  rcases List.mem_append.1 hx with hx | hx
  · exact h x hx
  · simp at hx; subst hx; exact h2
def PlaceG (w : World) (p : Kn) (L : List Pr) (e : Ending) (w' : World) : Prop := e = .returned (.tuple #[.int .i64 ((lo p L).length : Int), .bool (has p L)]) ∧ Below w.heap.size w w'
set_option maxHeartbeats 4000000 in
theorem place_any (w : World) (n₀ rb : Nat) (v : Value) (L : List Pr) (A : Option Addr) (m c : Nat) (l : List UInt8) (x : Int) (h : RT w n₀ rb v L) (hp : Bs w A m c l) (hl : L.length ≤ 1000000) :
    Calls Try.prog 43 #[.pointer (some ⟨rb, 0, none⟩), .slice A m c, .int .i64 x] w (PlaceG w (l, x) L) := by
  obtain ⟨Av, cv, ev, _⟩ := form_own h.own
  obtain ⟨n, hn⟩ : ∃ n, L.length = n := ⟨_, rfl⟩
  rw [hn] at ev
  have HY := Lib.hid (show ∀ W', Below w.heap.size w W' → W'.cell? ⟨rb, 0, none⟩ = some (.slice Av n cv) from fun W' hW => by rw [(h.cel.below hW).at_ 0, ev]; rfl)
  have HN := Lib.hid hn
  have H := Lib.hid h
  have HP := Lib.hid hp
  have hn6 : n ≤ 1000000 := by omega
  have HEV := Lib.hid ev
  clear h hp hl hn ev
  go_enter Try.func43, Try.ntmps43
  go_upto_region 2 with (fail)
  go_loopw [8] (fun i wr => ∃ k : Nat, k ≤ n ∧ i = .int .i64 (k : Int) ∧ Hid ((∀ y ∈ L.take k, ltb y.k (l, x) = true) ∧ Below w.heap.size w wr)) (fun i _ => n - (intOf i).toNat)
  case atStart => exact ⟨0, Nat.zero_le _, rfl, Lib.hid ⟨by simp, Below.refl _ _⟩⟩
  case round =>
    obtain ⟨k, hk, rfl, HR⟩ := hrel
    have hb9 := HR.out.2
    by_cases hlt : k < n
    · obtain ⟨r, hr⟩ : ∃ r, L[k]? = some r := ⟨_, List.getElem?_eq_getElem (by rw [HN.out]; exact hlt)⟩
      obtain ⟨g, cg, e2, hkr, hcell⟩ := H.out.pair hr
      rw [HEV.out, HN.out] at e2
      injection e2 with e2 e3 e4
      subst e2 e4
      rw [HN.out] at hcell
      have HK := Lib.hid hcell
      obtain ⟨y0, y1, y2⟩ := hcell wr hb9
      have t1 : (k : Int) < (n : Int) := by omega
      obtain ⟨b1, hb1⟩ : ∃ b, klt r.key l = b := ⟨_, rfl⟩
      obtain ⟨b2, hb2⟩ : ∃ b, decide (r.key = l) = b := ⟨_, rfl⟩
      have HBL := Lib.hid (fun W' (hW : Below w.heap.size w W') => below_in r.a A r.key.length m r.c c r.key l b1 hb1 w W' hkr.a HP.out hW)
      have HSM := Lib.hid (fun W' (hW : Below w.heap.size w W') => Refs.same_in r.a A r.key.length m r.c c r.key l b2 hb2 w W' hkr.a HP.out hW)
      have hltb : ltb r.k (l, x) = (b1 || (b2 && decide (r.num < x))) := by
        rw [← hb1, ← hb2]
        show (klt r.key l || (r.key == l && decide (r.num < x))) = _
        congr 2
        rw [Bool.eq_iff_iff]; simp
      have HB12 := Lib.hid (show klt r.key l = b1 ∧ decide (r.key = l) = b2 from ⟨hb1, hb2⟩)
      have HRR := Lib.hid hr
      clear hr hkr hcell e3 hb1 hb2
      cases b1 with
      | true =>
        have HLT := Lib.hid (show ltb r.k (l, x) = true by rw [hltb]; rfl)
        clear hltb
        go_wp2_with first | (go_at_call 35; (refine (HBL.out _ (by assumption)).mono ?_); rintro e w3 ⟨rfl, hb9⟩; obtain ⟨y0, y1, y2⟩ := HK.out _ hb9) | (go_at_call 30; (refine (HSM.out _ (by assumption)).mono ?_); rintro e w3 ⟨rfl, hb9⟩; obtain ⟨y0, y1, y2⟩ := HK.out _ hb9)
        go_roundw
        case rel => exact ⟨k + 1, by omega, by go_num, Lib.hid ⟨take_lt HR.out.1 HRR.out HLT.out, by assumption⟩⟩
        case measure => simp [intOf]; omega
      | false =>
        cases b2 with
        | false =>
          have HLT := Lib.hid (show ltb r.k (l, x) = false by rw [hltb]; rfl)
          clear hltb
          have HPL := Lib.hid (show (lo (l, x) L).length = k ∧ has (l, x) L = false from by
            have h1 := lo_at HR.out.1 (fun y hy => by rw [HRR.out] at hy; injection hy with hy; subst hy; exact HLT.out) (by rw [HN.out]; exact hk)
            refine ⟨h1, ?_⟩
            rw [has_at h1 HRR.out]
            cases e : ltb (l, x) r.k with
            | true => rfl
            | false =>
              exfalso
              have := ltb_total HLT.out e
              have h3 := HB12.out.2
              rw [show r.key = l from congrArg Prod.fst this] at h3
              simp at h3)
          go_upto_region 4 with first | (go_at_call 35; (refine (HBL.out _ (by assumption)).mono ?_); rintro e w3 ⟨rfl, hb9⟩; obtain ⟨y0, y1, y2⟩ := HK.out _ hb9) | (go_at_call 30; (refine (HSM.out _ (by assumption)).mono ?_); rintro e w3 ⟨rfl, hb9⟩; obtain ⟨y0, y1, y2⟩ := HK.out _ hb9)
          refine wp_region_quiet (C := fun w' => Below w.heap.size w w') (by kernel_rfl) (by kernel_rfl) (show Below w.heap.size w _ from by assumption).drew ?_
          repeat (first | go_big_quiet_skip | (refine BigFrame.wpQuiet_want rfl (fun K hK => ?_); refine quietC_val ?_; apply Exists.intro; refine ⟨fun W hW => ?_, hK _ ?_⟩; (focus (obtain ⟨q0, q1, q2⟩ := HK.out W hW; go_simp; first | done | rfl)); clear hK K; simp only [Act.put, List.setIfInBounds_toArray, List.set_cons_zero, List.set_cons_succ]) | (quiet_step ((intro hW; first | (go_at_call 30; exact HSM.out _ hW)))))
          refine wpQuiet_nil ?_
          intro W9 hw9
          have HW9 := Lib.hid hw9
          clear hw9
          go_wp2
          go_ret2
          exact ⟨by rw [HPL.out.1, HPL.out.2]; rfl, HW9.out⟩
        | true =>
          by_cases h3 : r.num < x
          · have t3 : decide (r.num < x) = true := decide_eq_true h3
            have HLT := Lib.hid (show ltb r.k (l, x) = true by rw [hltb, t3]; rfl)
            clear hltb
            go_wp2_with first | (go_at_call 35; (refine (HBL.out _ (by assumption)).mono ?_); rintro e w3 ⟨rfl, hb9⟩; obtain ⟨y0, y1, y2⟩ := HK.out _ hb9) | (go_at_call 30; (refine (HSM.out _ (by assumption)).mono ?_); rintro e w3 ⟨rfl, hb9⟩; obtain ⟨y0, y1, y2⟩ := HK.out _ hb9)
            go_roundw
            case rel => exact ⟨k + 1, by omega, by go_num, Lib.hid ⟨take_lt HR.out.1 HRR.out HLT.out, by assumption⟩⟩
            case measure => simp [intOf]; omega
          · have t3 : decide (r.num < x) = false := decide_eq_false h3
            have HLT := Lib.hid (show ltb r.k (l, x) = false by rw [hltb, t3]; rfl)
            clear hltb
            by_cases h4 : r.num = x
            · have t4 : (r.num == x) = true := by simp [h4]
              have HPL := Lib.hid (show (lo (l, x) L).length = k ∧ has (l, x) L = true from by
                have h1 := lo_at HR.out.1 (fun y hy => by rw [HRR.out] at hy; injection hy with hy; subst hy; exact HLT.out) (by rw [HN.out]; exact hk)
                refine ⟨h1, ?_⟩
                rw [has_at h1 HRR.out]
                have h5 := HB12.out.2
                have e : r.k = (l, x) := by
                  show (r.key, r.num) = _
                  rw [of_decide_eq_true h5, h4]
                rw [e, ltb_irrefl]; rfl)
              clear h3 h4
              go_upto_region 4 with first | (go_at_call 35; (refine (HBL.out _ (by assumption)).mono ?_); rintro e w3 ⟨rfl, hb9⟩; obtain ⟨y0, y1, y2⟩ := HK.out _ hb9) | (go_at_call 30; (refine (HSM.out _ (by assumption)).mono ?_); rintro e w3 ⟨rfl, hb9⟩; obtain ⟨y0, y1, y2⟩ := HK.out _ hb9)
              refine wp_region_quiet (C := fun w' => Below w.heap.size w w') (by kernel_rfl) (by kernel_rfl) (show Below w.heap.size w _ from by assumption).drew ?_
              repeat (first | go_big_quiet_skip | (refine BigFrame.wpQuiet_want rfl (fun K hK => ?_); refine quietC_val ?_; apply Exists.intro; refine ⟨fun W hW => ?_, hK _ ?_⟩; (focus (obtain ⟨q0, q1, q2⟩ := HK.out W hW; go_simp; first | done | rfl)); clear hK K; simp only [Act.put, List.setIfInBounds_toArray, List.set_cons_zero, List.set_cons_succ]) | (quiet_step ((intro hW; first | (go_at_call 30; exact HSM.out _ hW)))))
              refine wpQuiet_nil ?_
              intro W9 hw9
              have HW9 := Lib.hid hw9
              clear hw9
              go_wp2
              go_ret2
              exact ⟨by rw [HPL.out.1, HPL.out.2]; rfl, HW9.out⟩
            · have t4 : (r.num == x) = false := by simp [h4]
              have HPL := Lib.hid (show (lo (l, x) L).length = k ∧ has (l, x) L = false from by
                have h1 := lo_at HR.out.1 (fun y hy => by rw [HRR.out] at hy; injection hy with hy; subst hy; exact HLT.out) (by rw [HN.out]; exact hk)
                refine ⟨h1, ?_⟩
                rw [has_at h1 HRR.out]
                cases e : ltb (l, x) r.k with
                | true => rfl
                | false => exact absurd (congrArg Prod.snd (ltb_total HLT.out e)) h4)
              clear h3 h4
              go_upto_region 4 with first | (go_at_call 35; (refine (HBL.out _ (by assumption)).mono ?_); rintro e w3 ⟨rfl, hb9⟩; obtain ⟨y0, y1, y2⟩ := HK.out _ hb9) | (go_at_call 30; (refine (HSM.out _ (by assumption)).mono ?_); rintro e w3 ⟨rfl, hb9⟩; obtain ⟨y0, y1, y2⟩ := HK.out _ hb9)
              refine wp_region_quiet (C := fun w' => Below w.heap.size w w') (by kernel_rfl) (by kernel_rfl) (show Below w.heap.size w _ from by assumption).drew ?_
              repeat (first | go_big_quiet_skip | (refine BigFrame.wpQuiet_want rfl (fun K hK => ?_); refine quietC_val ?_; apply Exists.intro; refine ⟨fun W hW => ?_, hK _ ?_⟩; (focus (obtain ⟨q0, q1, q2⟩ := HK.out W hW; go_simp; first | done | rfl)); clear hK K; simp only [Act.put, List.setIfInBounds_toArray, List.set_cons_zero, List.set_cons_succ]) | (quiet_step ((intro hW; first | (go_at_call 30; exact HSM.out _ hW)))))
              refine wpQuiet_nil ?_
              intro W9 hw9
              have HW9 := Lib.hid hw9
              clear hw9
              go_wp2
              go_ret2
              exact ⟨by rw [HPL.out.1, HPL.out.2]; rfl, HW9.out⟩
    · have hkn : k = n := by omega
      subst hkn
      have y0 := HY.out wr hb9
      have HK := Lib.hid HY.out
      have HPL := Lib.hid (show (lo (l, x) L).length = k ∧ has (l, x) L = false from by
        have h1 := lo_at HR.out.1 (fun y hy => by rw [List.getElem?_eq_none (by have := HN.out; omega)] at hy; cases hy) (by rw [HN.out]; exact hk)
        exact ⟨h1, has_end (by have := HN.out; omega)⟩)
      go_upto_region 4 with (fail)
      refine wp_region_quiet (C := fun w' => Below w.heap.size w w') (by kernel_rfl) (by kernel_rfl) (show Below w.heap.size w _ from by assumption).drew ?_
      repeat (first | go_big_quiet_skip | (refine BigFrame.wpQuiet_want rfl (fun K hK => ?_); refine quietC_val ?_; apply Exists.intro; refine ⟨fun W hW => ?_, hK _ ?_⟩; (focus (have q0 := HK.out W hW; go_simp; first | done | rfl)); clear hK K; simp only [Act.put, List.setIfInBounds_toArray, List.set_cons_zero, List.set_cons_succ]) | fail)
      refine wpQuiet_nil ?_
      intro W9 hw9
      have HW9 := Lib.hid hw9
      clear hw9
      go_wp2
      go_ret2
      exact ⟨by rw [HPL.out.1, HPL.out.2]; rfl, HW9.out⟩
end Go.Proofs.Ytjlfacmmokfleaa.Bt
/- The document's tree: Has, Put, Drop. -/
namespace Go.Proofs.Ytjlfacmmokfleaa.Bt
open Go.RowKit Go.Proofs.Ytjlfacmmokfleaa.Mem Go.Proofs.Ytjlfacmmokfleaa.Right
set_option linter.unusedVariables false

theorem grown_low {w w' : World} {r : Option Nat} {B : Nat} (h : w.grownBy w' r) (hr : ∀ g, r = some g → B ≤ g) (hB : B ≤ w.heap.size) : Below B w w' :=
  ⟨h.os, h.tape, h.output, h.size, fun j hj => h.block j (by omega) (fun e => by have := hr j e.symm; omega)⟩
theorem lo_take_of {p : Kn} {L : List Pr} {k : Nat} (h : (lo p L).length = k) : L.take k = lo p L ∧ L.drop k = hi p L ∧ k ≤ L.length := by
  have e := lo_hi p L
  refine ⟨?_, ?_, ?_⟩
  · conv => lhs; rw [← e]
    exact List.take_left' h
  · conv => lhs; rw [← e]
    exact List.drop_left' h
  · rw [← e, List.length_append]; omega
set_option maxHeartbeats 1000000 in
theorem hasR_t (w : World) (n₀ rb : Nat) (v : Value) (L : List Pr) (A : Option Addr) (m c : Nat) (l : List UInt8) (x : Int) (q : Bool) (h : RT w n₀ rb v L) (hp : Bs w A m c l) (hl : L.length ≤ 1000) (hq : has (l, x) L = q) :
    Calls Try.prog 23 #[.pointer (some ⟨rb, 0, none⟩), .slice A m c, .int .i64 x] w fun e w' => e = .returned (.bool q) ∧ Below w.heap.size w w' := by
  have HPL := Lib.hid (place_any w n₀ rb v L A m c l x h hp (by omega))
  unfold PlaceG at HPL
  rw [hq] at HPL
  clear h hp
  generalize ((lo (l, x) L).length : Int) = ki at HPL
  go_enter Try.func23, Try.ntmps23
  go_wp2_with (go_at_call 43; (with_reducible refine HPL.out.mono ?_); rintro e w1 ⟨rfl, hb1⟩; have HB1 := Lib.hid hb1; clear hb1)
  go_ret
  exact ⟨rfl, HB1.out⟩
/-- What Put of the document's tree leaves. -/
def PutQ (w : World) (n₀ rb : Nat) (p : Kn) (L : List Pr) (q : Bool) (e : Ending) (w' : World) : Prop :=
  e = .returned (.bool q) ∧ Fr [rb] w w' ∧ ∃ v' L', RT w' n₀ rb v' L' ∧ (q = false → L' = L) ∧ (q = true → ∃ r, r.k = p ∧ Fresh w.heap.size r ∧ L' = lo p L ++ r :: hi p L)
theorem rt_end {w w5 : World} {n₀ rb : Nat} {v v' : Value} {L L' : List Pr} (h : RT w n₀ rb v L) (hb : Below w.heap.size w w5) (ho : w5.ownsRow n₀ tRP 2 v' L'.length (cellsP L')) (hk : ∀ r ∈ L', Key w5 r) (hS : Sorted L') : RT (w5.setCell ⟨rb, 0, none⟩ v') n₀ rb v' L' ∧ Fr [rb] w (w5.setCell ⟨rb, 0, none⟩ v') := by
  have hc : Cel w5 rb tR #[v] := h.cel.below hb
  have hs : Fr [rb] w5 (w5.setCell ⟨rb, 0, none⟩ v') := Fr.set hc (by decide) _
  refine ⟨⟨hc.set 0 _, set_own ho hc (by decide), fun r hr => hs.key (hk r hr), hS, h.rb_⟩, (Fr.of hb).trans hs⟩
set_option maxHeartbeats 4000000 in
theorem putR_t (w : World) (n₀ rb : Nat) (v : Value) (L : List Pr) (A : Option Addr) (m c : Nat) (l : List UInt8) (x : Int) (q : Bool) (h : RT w n₀ rb v L) (hp : Bs w A m c l) (hA : A = none → c = 0) (hm : m ≤ 1000) (hl : L.length ≤ 1000) (hn : n₀ ≤ w.heap.size) (hq : (!has (l, x) L) = q) :
    Calls Try.prog 21 #[.pointer (some ⟨rb, 0, none⟩), .slice A m c, .int .i64 x] w (PutQ w n₀ rb (l, x) L q) := by
  have HPL := Lib.hid (place_any w n₀ rb v L A m c l x h hp (by omega))
  unfold PlaceG at HPL
  obtain ⟨k, hk⟩ : ∃ k, (lo (l, x) L).length = k := ⟨_, rfl⟩
  obtain ⟨h1, h2, h3⟩ := lo_take_of hk
  rw [hk] at HPL
  have H := Lib.hid h
  have HP := Lib.hid hp
  have HQ := Lib.hid hq
  have HT := Lib.hid (show L.take k = lo (l, x) L ∧ L.drop k = hi (l, x) L ∧ k ≤ L.length ∧ L.length ≤ 1000 from ⟨h1, h2, h3, hl⟩)
  have HNN := Lib.hid hn
  have HAA := Lib.hid hA
  clear h hp h1 h2 h3 hl hn hA
  cases q with
  | false =>
    rw [show has (l, x) L = true by simpa using hq] at HPL
    clear hk hq
    go_enter Try.func21, Try.ntmps21
    go_wp2_with (go_at_call 43; (with_reducible refine HPL.out.mono ?_); rintro e w1 ⟨rfl, hb1⟩; have HB1 := Lib.hid hb1; clear hb1)
    go_ret
    exact ⟨rfl, Fr.of HB1.out, v, L, H.out.below HB1.out, fun _ => rfl, fun e => by cases e⟩
  | true =>
    rw [show has (l, x) L = false by simpa using hq] at HPL
    obtain ⟨n, hn⟩ : ∃ n, L.length = n := ⟨_, rfl⟩
    have hkn : k ≤ n := by have := HT.out.2.2.1; omega
    have hn6 : n ≤ 1000 := by have := HT.out.2.2.2; omega
    have ho := H.out.own
    rw [hn] at ho
    obtain ⟨Av, cv, ev, hnc, hsr⟩ := src_take ho hkn
    obtain ⟨Av', cv', A2, c2, ev', _, hrun, hsd⟩ := src_drop elemRP ho hkn
    rw [ev] at ev'
    injection ev' with e1 _ e3
    subst e1 e3
    rw [cellsP_take] at hsr
    rw [cellsP_drop] at hsd
    have hrun1 : ∀ w' : World, (Instr.sliceAt 26 (.slice Av n cv) none (some (.int .i64 (k : Int))) none).run Try.prog w' = .ok (.slice Av k cv) w' := fun w' => slice_h elemRP Av n cv k (by omega) w'
    have hrun2 : ∀ w' : World, (Instr.sliceAt 26 (.slice Av n cv) (some (.int .i64 (k : Int))) none none).run Try.prog w' = .ok (.slice A2 (n - k) c2) w' := hrun
    clear hrun
    have HSR := Lib.hid hsr
    have HSD := Lib.hid hsd
    have HY := Lib.hid (show ∀ W', Below w.heap.size w W' → W'.cell? ⟨rb, 0, none⟩ = some (.slice Av n cv) from fun W' hW => by rw [(H.out.cel.below hW).at_ 0, ev]; rfl)
    have HYO := Lib.hid (fun W' (hW : Below w.heap.size w W') => (H.out.cel.below hW).open_ 0)
    have HN := Lib.hid hn
    have HM := Lib.hid HP.out.2.1
    clear hk hq ho ev hsr hsd hn
    go_enter Try.func21, Try.ntmps21
    go_upto_region 5 with (go_at_call 43; (with_reducible refine HPL.out.mono ?_); rintro e w1 ⟨rfl, hb1⟩; have HB1 := Lib.hid hb1; clear hb1)
    have HMS := Lib.hid (Made.start HB1.out)
    have HPR := Lib.hid ((HP.out.below HB1.out).1)
    go_upto_region 6 with (at_builtin; go_loud (refine wp_src HMS.out HPR.out HM.out HAA.out (.tmp 19) (.tmp 20) rfl rfl rfl rfl (by simp; omega) ?_; intro v1 w2 m1; rw [List.nil_append] at m1; obtain ⟨A1, c1, rfl, k1, f1⟩ := made_key m1 x; have HB2 := Lib.hid m1.2.1; have HK1 := Lib.hid k1; have HF1 := Lib.hid f1; clear m1 k1 f1))
    have y0 := HY.out w2 HB2.out
    have hW0 := HK1.out.below (Below.refl _ _)
    go_upto_region 8 with (at_builtin; go_loud (refine wp_part elemRP (.tmp 22) (.tmp 28) rfl rfl (B := w.heap.size) (n := 0) rfl rfl (World.ownsRow_nil _ _ _ _) (HSR.out _ HB2.out) (cellsP_one _) (by omega) (by omega) HB2.out.size k (Nat.zero_add k) ?_; intro A3 c3 w3 o3 g3 _; rw [List.nil_append] at o3; have hb3 := grown_low (r := none) g3 (fun g e => by cases e) (Nat.le_refl _); have HB3 := Lib.hid (show Below w.heap.size w w3 from Mem.on HB2.out hb3); have HK3 := Lib.hid (HK1.out.below hb3); have HO3 := Lib.hid o3; have HG3 := Lib.hid (newRow_of o3); clear o3 g3 hb3))
    have HAL := Lib.hid (Mem.on HB3.out (al (Below.refl w3.heap.size w3) (.cells #[.slice A1 l.length c1, .int .i64 x] tRP)))
    have HO4 := Lib.hid (own_below HO3.out (al (Below.refl w3.heap.size w3) (.cells #[.slice A1 l.length c1, .int .i64 x] tRP)))
    have HK4 := Lib.hid (HK3.out.below (al (Below.refl w3.heap.size w3) (.cells #[.slice A1 l.length c1, .int .i64 x] tRP)))
    have HS4 := Lib.hid (show Src (w3.alloc (.cells #[.slice A1 l.length c1, .int .i64 x] tRP)) 2 (.slice (some ⟨w3.heap.size, 0, none⟩) 1 1) 1 (cells2 ⟨A1, c1, l, x⟩) from .inr ⟨_, _, rfl, rfl, fun j u hj => by
      have hc := Cel.new w3 tRP #[.slice A1 l.length c1, .int .i64 x] rfl
      match j with
      | 0 => simp [cells2, kv] at hj; subst hj; exact hc.at_ 0
      | 1 => simp [cells2, kv] at hj; subst hj; exact hc.at_ 1
      | j + 2 => simp [cells2] at hj⟩)
    go_upto_region 9 with (at_builtin; go_loud (refine wp_part elemRP (.tmp 30) (.tmp 34) rfl rfl (B := w.heap.size) (v := .slice A3 k c3) rfl rfl HO4.out HS4.out (fun u hu => by simp [cells2, kv] at hu; rcases hu with rfl | rfl <;> rfl) (by omega) (by omega) HAL.out.size (k + 1) rfl ?_; intro A5 c5 w5 o5 g5 _; have hf5 := Fr.row HO4.out (by decide) g5; have HB5 := Lib.hid (show Below w.heap.size w w5 from HAL.out.trans (grown_low g5 (newRow_of HO4.out) HAL.out.size)); have HK5 := Lib.hid (hf5.key HK4.out); have HO5 := Lib.hid o5; clear o5 g5 hf5))
    have y0 := HY.out w5 HB5.out
    have e0 := HYO.out w5 HB5.out
    have HS5 := Lib.hid (HSD.out w5 HB5.out)
    obtain ⟨r5, hr5⟩ : ∃ r5, k + 1 + (n - k) = r5 := ⟨_, rfl⟩
    have HR5 := Lib.hid hr5
    clear hr5
    go_wp2_with (at_builtin; go_loud (refine wp_part elemRP (.tmp 37) (.tmp 43) rfl rfl (B := w.heap.size) (v := .slice A5 (k + 1) c5) rfl rfl HO5.out HS5.out (cellsP_one _) (by omega) (by omega) HB5.out.size r5 HR5.out ?_; intro A6 c6 w6 o6 g6 _; have hf6 := Fr.row HO5.out (by decide) g6; have hb6 := HB5.out.trans (grown_low g6 (newRow_of HO5.out) HB5.out.size); have HB6 := Lib.hid hb6; have HK6 := Lib.hid (hf6.key HK5.out); have HO6 := Lib.hid o6; have e6 := HYO.out w6 hb6; have y6 := HY.out w6 hb6; clear o6 g6 hf6 hb6))
    go_ret
    have hL' : cellsP (L.take k) ++ cells2 ⟨A1, c1, l, x⟩ ++ cellsP (L.drop k) = cellsP (L.take k ++ ⟨A1, c1, l, x⟩ :: L.drop k) := by simp [cellsP]
    have hlen : (L.take k ++ (⟨A1, c1, l, x⟩ : Pr) :: L.drop k).length = r5 := by
      rw [List.length_append, List.length_cons, List.length_take, List.length_drop, HN.out, ← HR5.out]; omega
    have ho := HO6.out
    rw [hL', ← hlen] at ho
    have hS : Sorted (L.take k ++ (⟨A1, c1, l, x⟩ : Pr) :: L.drop k) := by
      rw [HT.out.1, HT.out.2.1]
      exact (putD (l, x)).sorted L ⟨A1, c1, l, x⟩ H.out.sorted HQ.out rfl
    have hk6 : ∀ r ∈ L.take k ++ (⟨A1, c1, l, x⟩ : Pr) :: L.drop k, Key w6 r := fun r hr => by
      rcases List.mem_append.1 hr with hr | hr
      · exact (H.out.keys r (List.mem_of_mem_take hr)).below HB6.out
      · rcases List.mem_cons.1 hr with rfl | hr
        · exact HK6.out
        · exact (H.out.keys r (List.mem_of_mem_drop hr)).below HB6.out
    have := rt_end H.out HB6.out (v' := .slice A6 r5 c6) (by rw [← hlen]; exact own_base ho HNN.out) hk6 hS
    exact ⟨rfl, this.2, _, _, this.1, fun e => (by cases e), fun _ => ⟨⟨A1, c1, l, x⟩, rfl, HF1.out, by rw [HT.out.1, HT.out.2.1]⟩⟩
end Go.Proofs.Ytjlfacmmokfleaa.Bt
/- The document's tree: Drop. -/
namespace Go.Proofs.Ytjlfacmmokfleaa.Bt
open Go.RowKit Go.Proofs.Ytjlfacmmokfleaa.Mem Go.Proofs.Ytjlfacmmokfleaa.Right
set_option linter.unusedVariables false

/-- What Drop of the document's tree leaves. -/
def DropQ (w : World) (n₀ rb : Nat) (p : Kn) (L : List Pr) (q : Bool) (e : Ending) (w' : World) : Prop :=
  e = .returned (.bool q) ∧ Fr [rb] w w' ∧ ∃ v' L', RT w' n₀ rb v' L' ∧ (q = false → L' = L) ∧ (q = true → L' = lo p L ++ (hi p L).tail)
set_option maxHeartbeats 4000000 in
theorem dropR_t (w : World) (n₀ rb : Nat) (v : Value) (L : List Pr) (A : Option Addr) (m c : Nat) (l : List UInt8) (x : Int) (q : Bool) (h : RT w n₀ rb v L) (hp : Bs w A m c l) (hl : L.length ≤ 1000) (hn : n₀ ≤ w.heap.size) (hq : has (l, x) L = q) :
    Calls Try.prog 22 #[.pointer (some ⟨rb, 0, none⟩), .slice A m c, .int .i64 x] w (DropQ w n₀ rb (l, x) L q) := by
  have HPL := Lib.hid (place_any w n₀ rb v L A m c l x h hp (by omega))
  unfold PlaceG at HPL
  obtain ⟨k, hk⟩ : ∃ k, (lo (l, x) L).length = k := ⟨_, rfl⟩
  obtain ⟨h1, h2, h3⟩ := lo_take_of hk
  rw [hk, hq] at HPL
  have H := Lib.hid h
  have HQ := Lib.hid hq
  have HT := Lib.hid (show L.take k = lo (l, x) L ∧ L.drop k = hi (l, x) L ∧ k ≤ L.length ∧ L.length ≤ 1000 from ⟨h1, h2, h3, hl⟩)
  have HNN := Lib.hid hn
  clear h hp h1 h2 h3 hl hn
  cases q with
  | false =>
    clear hk hq
    go_enter Try.func22, Try.ntmps22
    go_wp2_with (go_at_call 43; (with_reducible refine HPL.out.mono ?_); rintro e w1 ⟨rfl, hb1⟩; have HB1 := Lib.hid hb1; clear hb1)
    go_ret
    exact ⟨rfl, Fr.of HB1.out, v, L, H.out.below HB1.out, fun _ => rfl, fun e => by cases e⟩
  | true =>
    obtain ⟨n, hn⟩ : ∃ n, L.length = n := ⟨_, rfl⟩
    obtain ⟨b, t, hbt⟩ := has_cons hq
    have hkn : k < n := by
      have e := HT.out.2.1
      rw [hbt] at e
      have := congrArg List.length e
      rw [List.length_drop, List.length_cons] at this
      omega
    have hn6 : n ≤ 1000 := by have := HT.out.2.2.2; omega
    have ho := H.out.own
    rw [hn] at ho
    obtain ⟨Av, cv, ev, hnc, hsr⟩ := src_take ho (Nat.le_of_lt hkn)
    obtain ⟨k1, hk1⟩ : ∃ k1, k + 1 = k1 := ⟨_, rfl⟩
    obtain ⟨Av', cv', A2, c2, ev', _, hrun, hsd⟩ := src_drop elemRP ho (show k1 ≤ n by omega)
    rw [ev] at ev'
    injection ev' with e1 _ e3
    subst e1 e3
    rw [cellsP_take] at hsr
    rw [cellsP_drop] at hsd
    have hrun1 : ∀ w' : World, (Instr.sliceAt 26 (.slice Av n cv) none (some (.int .i64 (k : Int))) none).run Try.prog w' = .ok (.slice Av k cv) w' := fun w' => slice_h elemRP Av n cv k (by omega) w'
    have hrun2 : ∀ w' : World, (Instr.sliceAt 26 (.slice Av n cv) (some (.int .i64 (k1 : Int))) none none).run Try.prog w' = .ok (.slice A2 (n - k1) c2) w' := hrun
    have t1 : IntKind.i64.wrap ((k : Int) + 1) = (k1 : Int) := by rw [IntKind.wrap_i64]; omega
    clear hrun
    have HSR := Lib.hid hsr
    have HSD := Lib.hid hsd
    have HY := Lib.hid (show ∀ W', Below w.heap.size w W' → W'.cell? ⟨rb, 0, none⟩ = some (.slice Av n cv) from fun W' hW => by rw [(H.out.cel.below hW).at_ 0, ev]; rfl)
    have HYO := Lib.hid (fun W' (hW : Below w.heap.size w W') => (H.out.cel.below hW).open_ 0)
    have HN := Lib.hid hn
    have HK1 := Lib.hid hk1
    have HBT := Lib.hid hbt
    clear hk hq ho ev hsr hsd hn hbt
    go_enter Try.func22, Try.ntmps22
    go_upto_region 4 with (go_at_call 43; (with_reducible refine HPL.out.mono ?_); rintro e w1 ⟨rfl, hb1⟩; have HB1 := Lib.hid hb1; clear hb1)
    have y0 := HY.out w1 HB1.out
    go_upto_region 5 with (at_builtin; go_loud (refine wp_part elemRP (.tmp 18) (.tmp 24) rfl rfl (B := w.heap.size) (n := 0) rfl rfl (World.ownsRow_nil _ _ _ _) (HSR.out _ HB1.out) (cellsP_one _) (by omega) (by omega) HB1.out.size k (Nat.zero_add k) ?_; intro A3 c3 w3 o3 g3 _; rw [List.nil_append] at o3; have hb3 := grown_low (r := none) g3 (fun g e => by cases e) (Nat.le_refl _); have HB3 := Lib.hid (show Below w.heap.size w w3 from Mem.on HB1.out hb3); have HO3 := Lib.hid o3; clear o3 g3 hb3))
    have y0 := HY.out w3 HB3.out
    have HS3 := Lib.hid (HSD.out w3 HB3.out)
    obtain ⟨r5, hr5⟩ : ∃ r5, k + (n - k1) = r5 := ⟨_, rfl⟩
    have HR5 := Lib.hid hr5
    clear hr5
    go_wp2_with (at_builtin; go_loud (refine wp_part elemRP (.tmp 27) (.tmp 34) rfl rfl (B := w.heap.size) (v := .slice A3 k c3) rfl rfl HO3.out HS3.out (cellsP_one _) (by omega) (by omega) HB3.out.size r5 HR5.out ?_; intro A6 c6 w6 o6 g6 _; have hb6 := HB3.out.trans (grown_low g6 (newRow_of HO3.out) HB3.out.size); have HB6 := Lib.hid hb6; have HO6 := Lib.hid o6; have e6 := HYO.out w6 hb6; have y6 := HY.out w6 hb6; clear o6 g6 hb6))
    go_ret
    have hdr : L.drop k1 = (hi (l, x) L).tail := by rw [← HT.out.2.1, ← HK1.out, List.tail_drop]
    have hlen : (L.take k ++ L.drop k1).length = r5 := by
      rw [List.length_append, List.length_take, List.length_drop, HN.out, ← HR5.out]; omega
    have ho := HO6.out
    rw [cellsP_app, ← hlen] at ho
    have hS : Sorted (L.take k ++ L.drop k1) := by
      rw [HT.out.1, hdr]
      exact (dropD (l, x)).sorted L ⟨none, 0, l, x⟩ H.out.sorted HQ.out rfl
    have hk6 : ∀ r ∈ L.take k ++ L.drop k1, Key w6 r := fun r hr => by
      rcases List.mem_append.1 hr with hr | hr
      · exact (H.out.keys r (List.mem_of_mem_take hr)).below HB6.out
      · exact (H.out.keys r (List.mem_of_mem_drop hr)).below HB6.out
    have := rt_end H.out HB6.out (v' := .slice A6 r5 c6) (by rw [← hlen]; exact own_base ho HNN.out) hk6 hS
    exact ⟨rfl, this.2, _, _, this.1, fun e => (by cases e), fun _ => by rw [HT.out.1, hdr]⟩
end Go.Proofs.Ytjlfacmmokfleaa.Bt
/- A tree and the document's, side by side. -/
namespace Go.Proofs.Ytjlfacmmokfleaa.Bt
open Go.RowKit Go.Proofs.Ytjlfacmmokfleaa.Mem Go.Proofs.Ytjlfacmmokfleaa.Right
set_option linter.unusedVariables false

theorem Kp.key {n : Nat} {X : List Nat} {a b : World} (h : Kp n X a b) {r : Pr} (k : Key a r) : Key b r := by
  obtain ⟨⟨h1, h2⟩, h3, h4⟩ := k
  have ht : ∀ (g : Nat) (cs : Array Value) (fr : Nat × Nat), a.heap[g]? = some (.cells cs 5 fr) → b.heap[g]? = some (.cells cs 5 fr) := fun g cs fr hg => h.ty g cs _ fr hg (by decide)
  refine ⟨⟨fun j u hu => ?_, h2⟩, fun g o e => ?_, h4⟩
  · obtain ⟨g, o, e, hg, hc⟩ := h1 j u hu
    obtain ⟨cs, fr, hb⟩ := h3 g o e
    have hb' := ht g cs fr hb
    refine ⟨g, o, e, blk_lt hb', ?_⟩
    rw [← hc]
    exact World.cell?_of_block (w := a) (hb'.trans hb.symm)
  · obtain ⟨cs, fr, hb⟩ := h3 g o e
    exact ⟨cs, fr, ht g cs fr hb⟩
theorem Kp.own {n : Nat} {X : List Nat} {a b : World} (h : Kp n X a b) {base : Nat} {e : TypeId} {s m : Nat} {v : Value} {us : List Value} (k : a.ownsRow base e s v m us) (he : e ∉ [tN, tP, tK, tT]) : b.ownsRow base e s v m us := by
  obtain ⟨h1, h2⟩ := k
  refine ⟨h1, ?_⟩
  rcases h2 with h2 | ⟨g, cap, cur, rfl, hb, hh, rest⟩
  · exact .inl h2
  · exact .inr ⟨g, cap, cur, rfl, hb, h.ty g cur e _ hh he, rest⟩
theorem RT.kp {w w' : World} {n₀ rb n : Nat} {v : Value} {L : List Pr} {X : List Nat} (h : RT w n₀ rb v L) (hk : Kp n X w w') : RT w' n₀ rb v L :=
  ⟨hk.cel h.cel (by decide), hk.own h.own (by decide), fun r hr => hk.key (h.keys r hr), h.sorted, h.rb_⟩
theorem BT.fr {w w' : World} {n₀ tb : Nat} {X F : List Nat} {L : List Pr} (h : BT w n₀ tb X L) (hf : Fr F w w') (hF : ∀ y ∈ F, y ∈ X) : BT w' n₀ tb X L := by
  obtain ⟨d, m, h1, h2, h3, h4, h5, h6⟩ := h
  exact ⟨d, m, ⟨hf.cel h1.cel (fun e => h5 (hF _ e)), Rep.fr hf _ m h1.rep (fun y hy e => (h6 y (hF y e)).1 hy), h1.one, h1.out, h1.inn, h1.two, h1.le, h1.sorted⟩, h2, h3, h4, h5, fun y hy => ⟨(h6 y hy).1, Nat.lt_of_lt_of_le (h6 y hy).2 hf.size⟩⟩
/-- One more block is none of the tree's. -/
theorem BT.more {w : World} {n₀ tb : Nat} {X : List Nat} {L : List Pr} (h : BT w n₀ tb X L) (o : Obj) : BT (w.alloc o) n₀ tb (w.heap.size :: X) L := by
  have hb : Below w.heap.size w (w.alloc o) := al (Below.refl _ _) o
  obtain ⟨d, m, h1, h2, h3, h4, h5, h6⟩ := h
  have htl := h1.cel.lt
  refine ⟨d, m, h1.below hb, h2, h3, h4, fun e => ?_, fun y hy => ?_⟩
  · rcases List.mem_cons.1 e with e | e
    · omega
    · exact h5 e
  · rcases List.mem_cons.1 hy with rfl | hy
    · exact ⟨fun e => by have := Rep.lt _ _ h1.rep _ e; omega, by simp⟩
    · exact ⟨(h6 y hy).1, Nat.lt_of_lt_of_le (h6 y hy).2 hb.size⟩
/-! ### Lists with the same keys and numbers -/
theorem lo_map {p : Kn} : ∀ {L L' : List Pr}, L.map Pr.k = L'.map Pr.k → (lo p L).map Pr.k = (lo p L').map Pr.k ∧ (hi p L).map Pr.k = (hi p L').map Pr.k
  | [], [], _ => ⟨rfl, rfl⟩
  | [], _ :: _, h => by simp at h
  | _ :: _, [], h => by simp at h
  | x :: t, y :: s, h => by
    rw [List.map_cons, List.map_cons] at h
    injection h with h1 h2
    obtain ⟨i1, i2⟩ := lo_map (p := p) h2
    unfold lo hi at *
    rw [List.takeWhile_cons, List.takeWhile_cons, List.dropWhile_cons, List.dropWhile_cons, h1]
    split
    · exact ⟨by rw [List.map_cons, List.map_cons, h1, i1], i2⟩
    · exact ⟨rfl, by rw [List.map_cons, List.map_cons, h1, h2]⟩
theorem has_map {p : Kn} {L L' : List Pr} (h : L.map Pr.k = L'.map Pr.k) : has p L = has p L' := by
  have h2 := (lo_map (p := p) h).2
  unfold has
  cases e : hi p L with
  | nil =>
    cases e' : hi p L' with
    | nil => rfl
    | cons y s => rw [e, e'] at h2; simp at h2
  | cons x t =>
    cases e' : hi p L' with
    | nil => rw [e, e'] at h2; simp at h2
    | cons y s =>
      rw [e, e'] at h2
      simp at h2
      show (!ltb p x.k) = (!ltb p y.k)
      rw [h2.1]
/-- A pair that the law's acts may put. -/
def Sml (r : Pr) : Prop := r.key.length ≤ 100 ∧ -9223372036854775808 ≤ r.num
/-- The two trees have the same pairs. -/
structure Duo (w : World) (n₀ tb rb : Nat) (n : Nat) : Prop where
  both : ∃ v L L', BT w n₀ tb [rb] L ∧ RT w n₀ rb v L' ∧ L.map Pr.k = L'.map Pr.k ∧ L.length ≤ n ∧ ∀ r ∈ L, Sml r
theorem Duo.below {w w' : World} {n₀ tb rb n : Nat} (h : Duo w n₀ tb rb n) (hb : Below w.heap.size w w') : Duo w' n₀ tb rb n := by
  obtain ⟨v, L, L', h1, h2, h3⟩ := h.both
  exact ⟨v, L, L', h1.below hb, h2.below hb, h3⟩
theorem Duo.mono {w : World} {n₀ tb rb n m : Nat} (h : Duo w n₀ tb rb n) (hm : n ≤ m) : Duo w n₀ tb rb m := by
  obtain ⟨v, L, L', h1, h2, h3, h4, h5⟩ := h.both
  exact ⟨v, L, L', h1, h2, h3, by omega, h5⟩
theorem go_small {p : Kn} {L : List Pr} {r : Pr} (h : ∀ r ∈ L, Sml r) (hr : Sml r) : ∀ x ∈ lo p L ++ r :: hi p L, Sml x := by
  have e := lo_hi p L
  intro x hx
  rcases List.mem_append.1 hx with hx | hx
  · exact h x (by rw [← e]; simp [hx])
  · rcases List.mem_cons.1 hx with rfl | hx
    · exact hr
    · exact h x (by rw [← e]; simp [hx])
theorem dr_small {p : Kn} {L : List Pr} (h : ∀ r ∈ L, Sml r) : ∀ x ∈ lo p L ++ (hi p L).tail, Sml x := by
  have e := lo_hi p L
  intro x hx
  rcases List.mem_append.1 hx with hx | hx
  · exact h x (by rw [← e]; simp [hx])
  · exact h x (by rw [← e]; simp [List.mem_of_mem_tail hx])
theorem go_len (p : Kn) (L : List Pr) (r : Pr) : (lo p L ++ r :: hi p L).length = L.length + 1 := by
  have := congrArg List.length (lo_hi p L)
  simp at this ⊢
  omega
theorem dr_len (p : Kn) (L : List Pr) : (lo p L ++ (hi p L).tail).length ≤ L.length := by
  have := congrArg List.length (lo_hi p L)
  simp at this ⊢
  omega
/-! ### The two calls, one behind the other -/
/-- What a call on the tree leaves to one on the document's. -/
structure Mid (w : World) (n₀ tb rb : Nat) (v : Value) (L : List Pr) (L' : List Pr) (W : World) : Prop where
  bt : BT W n₀ tb [rb] L'
  rt : RT W n₀ rb v L
  kp : Kp n₀ [rb] w W
theorem both_put {w W W2 : World} {n₀ tb rb n : Nat} {L L' : List Pr} {p : Kn} {q : Bool} (h3 : L.map Pr.k = L'.map Pr.k) (h4 : L.length ≤ n) (h5 : ∀ r ∈ L, Sml r) (hp : p.1.length ≤ 100 ∧ -9223372036854775808 ≤ p.2)
    (h1 : Kp n₀ [rb] w W) (h1f : q = false → BT W n₀ tb [rb] L) (h1t : q = true → ∃ r, r.k = p ∧ Fresh w.heap.size r ∧ BT W n₀ tb [rb] (lo p L ++ r :: hi p L)) (hq : (!has p L) = q) {e : Ending} (h2 : PutQ W n₀ rb p L' q e W2) : Duo W2 n₀ tb rb (n + 1) := by
  obtain ⟨_, f, v', L2, r2, g1, g2⟩ := h2
  cases q with
  | false =>
    have := g1 rfl
    subst this
    exact ⟨v', L, L2, (h1f rfl).fr f (fun y hy => hy), r2, h3, by omega, h5⟩
  | true =>
    obtain ⟨r, hr, _, hb⟩ := h1t rfl
    obtain ⟨r', hr', _, rfl⟩ := g2 rfl
    obtain ⟨i1, i2⟩ := lo_map (p := p) h3
    refine ⟨v', _, _, hb.fr f (fun y hy => hy), r2, ?_, by rw [go_len]; omega, go_small h5 (by rw [← hr] at hp; exact hp)⟩
    rw [List.map_append, List.map_cons, List.map_append, List.map_cons, i1, i2, hr, hr']
theorem both_drop {w W W2 : World} {n₀ tb rb n : Nat} {L L' : List Pr} {p : Kn} {q : Bool} (h3 : L.map Pr.k = L'.map Pr.k) (h4 : L.length ≤ n) (h5 : ∀ r ∈ L, Sml r)
    (h1f : q = false → BT W n₀ tb [rb] L) (h1t : q = true → BT W n₀ tb [rb] (lo p L ++ (hi p L).tail)) {e : Ending} (h2 : DropQ W n₀ rb p L' q e W2) : Duo W2 n₀ tb rb n := by
  obtain ⟨_, f, v', L2, r2, g1, g2⟩ := h2
  cases q with
  | false =>
    have := g1 rfl
    subst this
    exact ⟨v', L, L2, (h1f rfl).fr f (fun y hy => hy), r2, h3, h4, h5⟩
  | true =>
    have := g2 rfl
    subst this
    obtain ⟨i1, i2⟩ := lo_map (p := p) h3
    refine ⟨v', _, _, (h1t rfl).fr f (fun y hy => hy), r2, ?_, Nat.le_trans (dr_len p L) h4, dr_small h5⟩
    rw [List.map_append, List.map_append, i1, List.map_tail, List.map_tail, i2]
end Go.Proofs.Ytjlfacmmokfleaa.Bt
/- An act of the law. -/
namespace Go.Proofs.Ytjlfacmmokfleaa.Bt
open Go.RowKit Go.Proofs.Ytjlfacmmokfleaa.Mem Go.Proofs.Ytjlfacmmokfleaa.Right
set_option linter.unusedVariables false

/-- An act: what is done, of which key, which lies from A on, and number. -/
structure Ab where
  d : Int
  A : Option Addr
  n : Nat
  c : Nat
  l : List UInt8
  x : Int
instance : Inhabited Ab := ⟨⟨0, none, 0, 0, [], 0⟩⟩
abbrev tA : TypeId := 32
def AbOk (w : World) (a : Ab) : Prop := Bs w a.A a.n a.c a.l ∧ (a.A = none → a.c = 0) ∧ (-9223372036854775808 ≤ a.x)
theorem AbOk.below {w w' : World} {a : Ab} (h : AbOk w a) (hb : Below w.heap.size w w') : AbOk w' a := ⟨h.1.below hb, h.2⟩
abbrev abv (a : Ab) : Value := .agg #[.int .i64 a.d, .slice a.A a.n a.c, .int .i64 a.x]
/-- What an act leaves. -/
def DoneG (w0 w : World) (tb rb n : Nat) (e : Ending) (w' : World) : Prop := e = .returned (.bool true) ∧ Duo w' w0.heap.size tb rb n ∧ Below w0.heap.size w0 w'
end Go.Proofs.Ytjlfacmmokfleaa.Bt
