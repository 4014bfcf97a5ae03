/- The document's slots as they lie in memory: each a truth and a slice; lists of the call's own. -/
import Derived.Test.YtgoadmkenglglaaPageKeep
import Derived.Test.YtgoadmkenglglaaPageGot
import Derived.Test.YtgoadmkenglglaaPageActs
namespace Go.Proofs.Ytgoadmkenglglaa.Pg
open Go.RowKit Go.Proofs.Ytgoadmkenglglaa.Mem Go.Proofs.Ytgoadmkenglglaa.Right
set_option linter.unusedVariables false

/-- A slot of the document's, with the place of its data. -/
structure Rc where
  s : Sl
  A : Option Addr
  c : Nat
instance : Inhabited Rc := ⟨⟨none, none, 0⟩⟩
def rcs (r : Rc) : List Value := [.bool r.s.isSome, .slice r.A (ln r.s) r.c]
def rcsAll (l : List Rc) : List Value := l.flatMap rcs
theorem rcsAll_len : ∀ l : List Rc, (rcsAll l).length = l.length * 2
  | [] => rfl
  | r :: l => by
    have := rcsAll_len l
    unfold rcsAll at this ⊢
    rw [List.flatMap_cons, List.length_append, this, List.length_cons]
    show 2 + _ = _
    omega
theorem rcsAll_app (l m : List Rc) : rcsAll (l ++ m) = rcsAll l ++ rcsAll m := by simp [rcsAll]
theorem rcsAll_at : ∀ {l : List Rc} {k : Nat} {r : Rc}, l[k]? = some r → (rcsAll l)[k * 2]? = some (.bool r.s.isSome) ∧ (rcsAll l)[k * 2 + 1]? = some (.slice r.A (ln r.s) r.c)
  | [], k, r, h => by simp at h
  | u :: l, 0, r, h => by
    simp at h; subst h
    exact ⟨rfl, rfl⟩
  | u :: l, k + 1, r, h => by
    rw [List.getElem?_cons_succ] at h
    obtain ⟨h0, h1⟩ := rcsAll_at h
    have e : (k + 1) * 2 = k * 2 + 2 := by omega
    rw [e]
    exact ⟨h0, h1⟩
theorem rcsAll_set : ∀ {l : List Rc} {k : Nat} (r : Rc), k < l.length → rcsAll (l.set k r) = ((rcsAll l).set (k * 2) (.bool r.s.isSome)).set (k * 2 + 1) (.slice r.A (ln r.s) r.c)
  | [], k, r, h => by simp at h
  | u :: l, 0, r, h => rfl
  | u :: l, k + 1, r, h => by
    have := rcsAll_set (l := l) (k := k) r (by simpa using h)
    rw [List.set_cons_succ]
    show rcs u ++ rcsAll (l.set k r) = _
    rw [this]
    have e : (k + 1) * 2 = k * 2 + 2 := by omega
    rw [e]
    rfl
theorem rcsAll_take (l : List Rc) (k : Nat) : rcsAll (l.take k) = (rcsAll l).take (k * 2) := by
  rcases Nat.le_total k l.length with h | h
  · have e : rcsAll l = rcsAll (l.take k) ++ rcsAll (l.drop k) := by rw [← rcsAll_app, List.take_append_drop]
    rw [e, List.take_left' (by rw [rcsAll_len, List.length_take]; omega)]
  · rw [List.take_of_length_le h, List.take_of_length_le (by rw [rcsAll_len]; omega)]
theorem rcsAll_one (l : List Rc) : ∀ u ∈ rcsAll l, u.oneCell' = true := by
  intro u hu
  obtain ⟨r, _, hr⟩ := List.mem_flatMap.1 hu
  simp [rcs] at hr
  rcases hr with rfl | rfl <;> rfl
/-- The data of slots can be read. -/
def Dats (w : World) (rs : List Rc) : Prop := ∀ r ∈ rs, Bs w r.A (ln r.s) r.c (dat r.s)
/-- A slice that reads as these slots. -/
def RL (w : World) (A : Option Addr) (n c : Nat) (S : List Sl) : Prop :=
  ∃ rs : List Rc, rs.map (fun r => r.s) = S ∧ Row w w.heap.size A (rcsAll rs) ∧ rs.length = n ∧ n ≤ c ∧ c ≤ 9223372036854775807 ∧ (A = none → c = 0) ∧ Dats w rs
theorem RL.len {w : World} {A : Option Addr} {n c : Nat} {S : List Sl} (h : RL w A n c S) : S.length = n := by
  obtain ⟨rs, e, _, h2, _⟩ := h
  rw [← e, List.length_map, h2]
theorem Dats.below {w w' : World} {rs : List Rc} (h : Dats w rs) (hb : Below w.heap.size w w') : Dats w' rs := fun r hr => (h r hr).below hb
theorem RL.below {w w' : World} {A : Option Addr} {n c : Nat} {S : List Sl} (h : RL w A n c S) (hb : Below w.heap.size w w') : RL w' A n c S := by
  obtain ⟨rs, e, h1, h2, h3, h4, h5, h6⟩ := h
  exact ⟨rs, e, (h1.below hb (Nat.le_refl _)).more hb.size, h2, h3, h4, h5, h6.below hb⟩
theorem RL.nil (w : World) : RL w none 0 0 [] := ⟨[], rfl, Row.none_, rfl, Nat.le_refl _, by decide, fun _ => rfl, fun r hr => by simp at hr⟩
theorem RL.get {w : World} {A : Option Addr} {n c k : Nat} {S : List Sl} (h : RL w A n c S) (hk : k < n) :
    ∃ b o A' c', A = some ⟨b, o, none⟩ ∧ b < w.heap.size ∧ w.cell? ⟨b, o + k * 2, none⟩ = some (.bool (sl S k).isSome) ∧ w.cell? ⟨b, o + k * 2 + 1, none⟩ = some (.slice A' (ln (sl S k)) c') ∧ Bs w A' (ln (sl S k)) c' (dat (sl S k)) := by
  obtain ⟨rs, e, h1, h2, h3, h4, h5, h6⟩ := h
  have hr : rs[k]? = some rs[k] := List.getElem?_eq_getElem (by omega)
  have hs : sl S k = rs[k].s := by unfold sl; rw [← e, List.getElem?_map, hr]; rfl
  obtain ⟨a0, a1⟩ := rcsAll_at hr
  obtain ⟨b, o, e1, hb, c0⟩ := h1 _ _ a0
  obtain ⟨b', o', e2, _, c1⟩ := h1 _ _ a1
  rw [e1] at e2
  injection e2 with e2
  injection e2 with e3 e4
  subst e3 e4
  rw [← Nat.add_assoc] at c1
  rw [hs]
  exact ⟨b, o, rs[k].A, rs[k].c, e1, hb, c0, c1, h6 _ (List.getElem_mem _)⟩
/-- A list of slots that the call owns. -/
def MadeR (w : World) (v : Value) (rs : List Rc) (w' : World) : Prop := w'.ownsRow w.heap.size 52 2 v rs.length (rcsAll rs) ∧ Below w.heap.size w w'
theorem own2 {w : World} {base : Nat} {e : TypeId} {A : Option Addr} {n c : Nat} {us : List Value} (h : w.ownsRow base e 2 (.slice A n c) n us) : Row w w.heap.size A us := by
  intro k u hu
  obtain ⟨hk, _⟩ := List.getElem?_eq_some_iff.1 hu
  have hn : us.length = n * 2 := h.1
  rcases h.2 with ⟨_, h0⟩ | ⟨g, cap, cur, hv, _, hh, hnc, hcm, hcs, hcur⟩
  · omega
  · injection hv with hA hn' hc
    subst hA hc
    refine ⟨g, 0, rfl, ?_, ?_⟩
    · exact blk_lt hh
    · have h3 : cur.toList[k]? = some u := by
        rw [← hcur, List.getElem?_take] at hu
        split at hu
        · exact hu
        · cases hu
      simp [World.cell?, hh]
      simpa using h3
theorem MadeR.rl {w w' : World} {v : Value} {rs : List Rc} {S : List Sl} (h : MadeR w v rs w') (hS : rs.map (fun r => r.s) = S) (hd : Dats w' rs) : ∃ A c, v = .slice A S.length c ∧ RL w' A S.length c S := by
  have hl : rs.length = S.length := by rw [← hS, List.length_map]
  obtain ⟨h1, h2⟩ := h
  rcases h1.2 with ⟨rfl, h0⟩ | ⟨g, cap, cur, rfl, hB, hg, hnc, hcm, hsz, htk⟩
  · refine ⟨none, 0, by rw [← hl, h0], rs, hS, own2 (c := 0) (show w'.ownsRow _ _ 2 (.slice none rs.length 0) rs.length _ from (by rw [h0] at h1 ⊢; exact h1)), hl, by omega, by decide, fun _ => rfl, hd⟩
  · exact ⟨some ⟨g, 0, none⟩, cap, by rw [hl], rs, hS, own2 h1, hl, by omega, by unfold maxLen at hcm; omega, (fun e => by cases e), hd⟩
theorem MadeR.form {w w' : World} {v : Value} {rs : List Rc} (h : MadeR w v rs w') (h0 : 0 < rs.length) : ∃ g c, v = .slice (some ⟨g, 0, none⟩) rs.length c ∧ w.heap.size ≤ g ∧ g < w'.heap.size := by
  rcases h.1.2 with ⟨rfl, h1⟩ | ⟨g, cap, cur, rfl, hB, hg, _⟩
  · omega
  · exact ⟨g, cap, rfl, hB, blk_lt hg⟩
/-- The cells of a slot of the call's own, and that they may be written. -/
theorem MadeR.at_ {w w' : World} {g n c k : Nat} {rs : List Rc} (h : MadeR w (.slice (some ⟨g, 0, none⟩) n c) rs w') (hn : rs.length = n) (hk : k < n) :
    (∃ x, w'.cell? ⟨g, k * 2, none⟩ = some x) ∧ (∃ x, w'.cell? ⟨g, k * 2 + 1, none⟩ = some x) ∧ w'.frozen? ⟨g, k * 2, none⟩ = false ∧ w'.frozen? ⟨g, k * 2 + 1, none⟩ = false := by
  subst hn
  have hr : rs[k]? = some rs[k] := List.getElem?_eq_getElem hk
  obtain ⟨a0, a1⟩ := rcsAll_at hr
  obtain ⟨b, o, e, _, c0⟩ := own2 h.1 _ _ a0
  obtain ⟨b', o', e', _, c1⟩ := own2 h.1 _ _ a1
  injection e with e; injection e with e1 e2
  injection e' with e'; injection e' with e3 e4
  subst e1 e2 e3 e4
  rw [Nat.zero_add] at c0 c1
  rcases h.1.2 with ⟨hv, h1⟩ | ⟨g', cap, cur, hv, hB, hg, _⟩
  · cases hv
  · injection hv with hv1 hv2 hv3
    injection hv1 with hv1
    injection hv1 with hv1
    subst hv1
    exact ⟨⟨_, c0⟩, ⟨_, c1⟩, by simp [World.frozen?, hg], by simp [World.frozen?, hg]⟩
theorem MadeR.set {w w' : World} {g n c k : Nat} {rs : List Rc} (r : Rc) (h : MadeR w (.slice (some ⟨g, 0, none⟩) n c) rs w') (hn : rs.length = n) (hk : k < n) (hg : w.heap.size ≤ g) :
    MadeR w (.slice (some ⟨g, 0, none⟩) n c) (rs.set k r) ((w'.setCell ⟨g, k * 2, none⟩ (.bool r.s.isSome)).setCell ⟨g, k * 2 + 1, none⟩ (.slice r.A (ln r.s) r.c)) := by
  subst hn
  obtain ⟨h1, h2⟩ := h
  have s1 := h1.stored (k * 2) (.bool r.s.isSome)
  have s2 := s1.1.stored (k * 2 + 1) (.slice r.A (ln r.s) r.c)
  refine ⟨?_, (h2.setCell (p := ⟨g, k * 2, none⟩) hg _).setCell (p := ⟨g, k * 2 + 1, none⟩) hg _⟩
  rw [rcsAll_set r hk, List.length_set]
  exact s2.1
theorem info_slot : (Try.prog.info? 52).map (fun i => (i.zero, i.size, i.bytes)) = some (some (.agg #[.bool false, .slice none 0 0]), 2, 32) := by kernel_rfl
/-- Slots behind a list of the call's own; what comes may be nil. -/
theorem wp_rcs {w0 w : World} {ops : Array Oper} {rest : List Oper} {o : Oper} {a : Act} {Q : Exit → Act → World → Prop} (s y : Operand)
    (hgd : o.guard = none) (ho : o.op = .call { callee := .builtin .append, args := #[s, y], argTypes := #[25, 25] })
    {v : Value} {rs us : List Rc} (hs : a.eval s = v) (hown : MadeR w0 v rs w) {B : Nat} {A : Option Addr} {m c : Nat} (hy : a.eval y = .slice A m c) (hr : Row w B A (rcsAll us))
    (hl : us.length = m) (hA : A = none → c = 0) (hn : rs.length + m ≤ 2000)
    (h : ∀ v' w', MadeR w0 v' (rs ++ us) w' → wpList Try.prog ops Q rest (a.put o.dst v') w') :
    wpList Try.prog ops Q (o :: rest) a w := by
  obtain ⟨i, hi, hz, hz1, hz2⟩ := info_parts info_slot
  subst hl
  cases A with
  | none =>
    have hc := hA rfl
    subst hc
    have hu : us = [] := by
      cases us with
      | nil => rfl
      | cons u r =>
        obtain ⟨b, o', he, _⟩ := hr 0 (.bool u.s.isSome) rfl
        cases he
    subst hu
    refine wpList_append_own_none hgd s y 25 ho w0.heap.size 52 i 2 Try.underlying25 hi v rs.length (rcsAll rs) hs hown.1 hy ?_
    exact h v w (by rw [List.append_nil]; exact hown)
  | some ad =>
    refine wpList_append_own_at _ hgd s y 25 ho w0.heap.size 52 i _ 2 32 Try.underlying25 hi hz hz1 hz2 rfl (by decide) v rs.length (rcsAll rs) hs hown.1 ad us.length c (rcsAll us) hy (rcsAll_len us) ?_ (rcsAll_one us) (by unfold maxLen; omega) (by omega) hown.2.size fun v' w' g1 g2 _ g3 => h v' w' ⟨?_, hown.2.grown g2 hown.2.size (fun k hk => (hown.1.lt k hk).1)⟩
    · intro j u hu
      obtain ⟨b, o', he, _, hc⟩ := hr j u hu
      have he : ad = ⟨b, o', none⟩ := by injection he
      subst he
      have e2 : (⟨b, o', none⟩ : Addr).add j = ⟨b, o' + j, none⟩ := by unfold Addr.add; split <;> simp_all
      rw [e2]; exact hc
    · rw [rcsAll_app, List.length_append]
      exact g1
end Go.Proofs.Ytgoadmkenglglaa.Pg
