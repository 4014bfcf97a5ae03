import Derived.Test.YthcilmlaoddckaaPageSl
import Derived.Deep.QuietTactic
import Derived.BigQuiet
/- The document's slots as they lie in memory: each a truth and a slice; lists of the call's own. -/
namespace Go.Proofs.Ythcilmlaoddckaa.Pg
open Go.RowKit Go.Proofs.Ythcilmlaoddckaa.Mem Go.Proofs.Ythcilmlaoddckaa.Right
set_option linter.unusedVariables false

/-- A slot of the document's, with the place of its data. -/
structure Rc where
  s : Sl
  A : Option Addr
  c : Nat
instance : Inhabited Rc := ⟨⟨none, none, 0⟩⟩
def rcs (r : Rc) : List Value := [.bool r.s.isSome, .slice r.A (ln r.s) r.c]
def rcsAll (l : List Rc) : List Value := l.flatMap rcs
theorem rcsAll_len : ∀ l : List Rc, (rcsAll l).length = l.length * 2
  | [] => rfl
  | r :: l => by
    have := rcsAll_len l
    unfold rcsAll at this ⊢
    rw [List.flatMap_cons, List.length_append, this, List.length_cons]
    show 2 + _ = _
    omega
theorem rcsAll_app (l m : List Rc) : rcsAll (l ++ m) = rcsAll l ++ rcsAll m := by simp [rcsAll]
theorem rcsAll_at : ∀ {l : List Rc} {k : Nat} {r : Rc}, l[k]? = some r → (rcsAll l)[k * 2]? = some (.bool r.s.isSome) ∧ (rcsAll l)[k * 2 + 1]? = some (.slice r.A (ln r.s) r.c)
  | [], k, r, h => by simp at h
  | u :: l, 0, r, h => by
    simp at h; subst h
    exact ⟨rfl, rfl⟩
  | u :: l, k + 1, r, h => by
    rw [List.getElem?_cons_succ] at h
    obtain ⟨h0, h1⟩ := rcsAll_at h
    have e : (k + 1) * 2 = k * 2 + 2 := by omega
    rw [e]
    exact ⟨h0, h1⟩
theorem rcsAll_set : ∀ {l : List Rc} {k : Nat} (r : Rc), k < l.length → rcsAll (l.set k r) = ((rcsAll l).set (k * 2) (.bool r.s.isSome)).set (k * 2 + 1) (.slice r.A (ln r.s) r.c)
  | [], k, r, h => by simp at h
  | u :: l, 0, r, h => rfl
  | u :: l, k + 1, r, h => by
    have := rcsAll_set (l := l) (k := k) r (by simpa using h)
    rw [List.set_cons_succ]
    show rcs u ++ rcsAll (l.set k r) = _
    rw [this]
    have e : (k + 1) * 2 = k * 2 + 2 := by omega
    rw [e]
    rfl
theorem rcsAll_take (l : List Rc) (k : Nat) : rcsAll (l.take k) = (rcsAll l).take (k * 2) := by
  rcases Nat.le_total k l.length with h | h
  · have e : rcsAll l = rcsAll (l.take k) ++ rcsAll (l.drop k) := by rw [← rcsAll_app, List.take_append_drop]
    rw [e, List.take_left' (by rw [rcsAll_len, List.length_take]; omega)]
  · rw [List.take_of_length_le h, List.take_of_length_le (by rw [rcsAll_len]; omega)]
theorem rcsAll_one (l : List Rc) : ∀ u ∈ rcsAll l, u.oneCell' = true := by
  intro u hu
  obtain ⟨r, _, hr⟩ := List.mem_flatMap.1 hu
  simp [rcs] at hr
  rcases hr with rfl | rfl <;> rfl
/-- The data of slots can be read. -/
def Dats (w : World) (rs : List Rc) : Prop := ∀ r ∈ rs, Bs w r.A (ln r.s) r.c (dat r.s)
/-- A slice's block has elements of type t. -/
def Tyd (w : World) (A : Option Addr) (t : TypeId) : Prop := ∀ b o, A = some ⟨b, o, none⟩ → ∃ cs fr, w.heap[b]? = some (.cells cs t fr)
theorem Tyd.below {w w' : World} {A : Option Addr} {t : TypeId} (h : Tyd w A t) (hb : Below w.heap.size w w') : Tyd w' A t := fun b o e => by
  obtain ⟨cs, fr, hc⟩ := h b o e
  exact ⟨cs, fr, (hb.block b (blk_lt hc)).trans hc⟩
theorem Tyd.none_ (w : World) (t : TypeId) : Tyd w none t := fun b o e => by cases e
/-- A slice that reads as these slots. -/
def RL (w : World) (A : Option Addr) (n c : Nat) (S : List Sl) : Prop :=
  ∃ rs : List Rc, rs.map (fun r => r.s) = S ∧ Row w w.heap.size A (rcsAll rs) ∧ rs.length = n ∧ n ≤ c ∧ c ≤ 9223372036854775807 ∧ (A = none → c = 0) ∧ Dats w rs ∧ Tyd w A 74
theorem RL.len {w : World} {A : Option Addr} {n c : Nat} {S : List Sl} (h : RL w A n c S) : S.length = n := by
  obtain ⟨rs, e, _, h2, _⟩ := h
  rw [← e, List.length_map, h2]
theorem Dats.below {w w' : World} {rs : List Rc} (h : Dats w rs) (hb : Below w.heap.size w w') : Dats w' rs := fun r hr => (h r hr).below hb
theorem RL.below {w w' : World} {A : Option Addr} {n c : Nat} {S : List Sl} (h : RL w A n c S) (hb : Below w.heap.size w w') : RL w' A n c S := by
  obtain ⟨rs, e, h1, h2, h3, h4, h5, h6, h7⟩ := h
  exact ⟨rs, e, (h1.below hb (Nat.le_refl _)).more hb.size, h2, h3, h4, h5, h6.below hb, h7.below hb⟩
theorem RL.nil (w : World) : RL w none 0 0 [] := ⟨[], rfl, Row.none_, rfl, Nat.le_refl _, by decide, fun _ => rfl, (fun r hr => by simp at hr), Tyd.none_ _ _⟩
theorem RL.get {w : World} {A : Option Addr} {n c k : Nat} {S : List Sl} (h : RL w A n c S) (hk : k < n) :
    ∃ b o A' c', A = some ⟨b, o, none⟩ ∧ b < w.heap.size ∧ w.cell? ⟨b, o + k * 2, none⟩ = some (.bool (sl S k).isSome) ∧ w.cell? ⟨b, o + k * 2 + 1, none⟩ = some (.slice A' (ln (sl S k)) c') ∧ Bs w A' (ln (sl S k)) c' (dat (sl S k)) := by
  obtain ⟨rs, e, h1, h2, h3, h4, h5, h6, _⟩ := h
  have hr : rs[k]? = some rs[k] := List.getElem?_eq_getElem (by omega)
  have hs : sl S k = rs[k].s := by unfold sl; rw [← e, List.getElem?_map, hr]; rfl
  obtain ⟨a0, a1⟩ := rcsAll_at hr
  obtain ⟨b, o, e1, hb, c0⟩ := h1 _ _ a0
  obtain ⟨b', o', e2, _, c1⟩ := h1 _ _ a1
  rw [e1] at e2
  injection e2 with e2
  injection e2 with e3 e4
  subst e3 e4
  rw [← Nat.add_assoc] at c1
  rw [hs]
  exact ⟨b, o, rs[k].A, rs[k].c, e1, hb, c0, c1, h6 _ (List.getElem_mem _)⟩
/-- A list of slots that the call owns. -/
def MadeR (w : World) (v : Value) (rs : List Rc) (w' : World) : Prop := w'.ownsRow w.heap.size 74 2 v rs.length (rcsAll rs) ∧ Below w.heap.size w w'
theorem own2 {w : World} {base : Nat} {e : TypeId} {A : Option Addr} {n c : Nat} {us : List Value} (h : w.ownsRow base e 2 (.slice A n c) n us) : Row w w.heap.size A us := by
  intro k u hu
  obtain ⟨hk, _⟩ := List.getElem?_eq_some_iff.1 hu
  have hn : us.length = n * 2 := h.1
  rcases h.2 with ⟨_, h0⟩ | ⟨g, cap, cur, hv, _, hh, hnc, hcm, hcs, hcur⟩
  · omega
  · injection hv with hA hn' hc
    subst hA hc
    refine ⟨g, 0, rfl, ?_, ?_⟩
    · exact blk_lt hh
    · have h3 : cur.toList[k]? = some u := by
        rw [← hcur, List.getElem?_take] at hu
        split at hu
        · exact hu
        · cases hu
      simp [World.cell?, hh]
      simpa using h3
theorem MadeR.rl {w w' : World} {v : Value} {rs : List Rc} {S : List Sl} (h : MadeR w v rs w') (hS : rs.map (fun r => r.s) = S) (hd : Dats w' rs) : ∃ A c, v = .slice A S.length c ∧ RL w' A S.length c S := by
  have hl : rs.length = S.length := by rw [← hS, List.length_map]
  obtain ⟨h1, h2⟩ := h
  rcases h1.2 with ⟨rfl, h0⟩ | ⟨g, cap, cur, rfl, hB, hg, hnc, hcm, hsz, htk⟩
  · refine ⟨none, 0, by rw [← hl, h0], rs, hS, own2 (c := 0) (show w'.ownsRow _ _ 2 (.slice none rs.length 0) rs.length _ from (by rw [h0] at h1 ⊢; exact h1)), hl, by omega, by decide, fun _ => rfl, hd, Tyd.none_ _ _⟩
  · exact ⟨some ⟨g, 0, none⟩, cap, by rw [hl], rs, hS, own2 h1, hl, by omega, by unfold maxLen at hcm; omega, (fun e => by cases e), hd, fun b o e => by injection e with e; injection e with e1 e2; subst e1; exact ⟨_, _, hg⟩⟩
theorem MadeR.form {w w' : World} {v : Value} {rs : List Rc} (h : MadeR w v rs w') (h0 : 0 < rs.length) : ∃ g c, v = .slice (some ⟨g, 0, none⟩) rs.length c ∧ w.heap.size ≤ g ∧ g < w'.heap.size := by
  rcases h.1.2 with ⟨rfl, h1⟩ | ⟨g, cap, cur, rfl, hB, hg, _⟩
  · omega
  · exact ⟨g, cap, rfl, hB, blk_lt hg⟩
/-- The cells of a slot of the call's own, and that they may be written. -/
theorem MadeR.at_ {w w' : World} {g n c k : Nat} {rs : List Rc} (h : MadeR w (.slice (some ⟨g, 0, none⟩) n c) rs w') (hn : rs.length = n) (hk : k < n) :
    (∃ x, w'.cell? ⟨g, k * 2, none⟩ = some x) ∧ (∃ x, w'.cell? ⟨g, k * 2 + 1, none⟩ = some x) ∧ w'.frozen? ⟨g, k * 2, none⟩ = false ∧ w'.frozen? ⟨g, k * 2 + 1, none⟩ = false := by
  subst hn
  have hr : rs[k]? = some rs[k] := List.getElem?_eq_getElem hk
  obtain ⟨a0, a1⟩ := rcsAll_at hr
  obtain ⟨b, o, e, _, c0⟩ := own2 h.1 _ _ a0
  obtain ⟨b', o', e', _, c1⟩ := own2 h.1 _ _ a1
  injection e with e; injection e with e1 e2
  injection e' with e'; injection e' with e3 e4
  subst e1 e2 e3 e4
  rw [Nat.zero_add] at c0 c1
  rcases h.1.2 with ⟨hv, h1⟩ | ⟨g', cap, cur, hv, hB, hg, _⟩
  · cases hv
  · injection hv with hv1 hv2 hv3
    injection hv1 with hv1
    injection hv1 with hv1
    subst hv1
    exact ⟨⟨_, c0⟩, ⟨_, c1⟩, by simp [World.frozen?, hg], by simp [World.frozen?, hg]⟩
theorem MadeR.set {w w' : World} {g n c k : Nat} {rs : List Rc} (r : Rc) (h : MadeR w (.slice (some ⟨g, 0, none⟩) n c) rs w') (hn : rs.length = n) (hk : k < n) (hg : w.heap.size ≤ g) :
    MadeR w (.slice (some ⟨g, 0, none⟩) n c) (rs.set k r) ((w'.setCell ⟨g, k * 2, none⟩ (.bool r.s.isSome)).setCell ⟨g, k * 2 + 1, none⟩ (.slice r.A (ln r.s) r.c)) := by
  subst hn
  obtain ⟨h1, h2⟩ := h
  have s1 := h1.stored (k * 2) (.bool r.s.isSome)
  have s2 := s1.1.stored (k * 2 + 1) (.slice r.A (ln r.s) r.c)
  refine ⟨?_, (h2.setCell (p := ⟨g, k * 2, none⟩) hg _).setCell (p := ⟨g, k * 2 + 1, none⟩) hg _⟩
  rw [rcsAll_set r hk, List.length_set]
  exact s2.1
theorem info_slot : (Try.prog.info? 74).map (fun i => (i.zero, i.size, i.bytes)) = some (some (.agg #[.bool false, .slice none 0 0]), 2, 32) := by kernel_rfl
/-- Slots behind a list of the call's own; what comes may be nil. -/
theorem wp_rcs {w0 w : World} {ops : Array Oper} {rest : List Oper} {o : Oper} {a : Act} {Q : Exit → Act → World → Prop} (s y : Operand)
    (hgd : o.guard = none) (ho : o.op = .call { callee := .builtin .append, args := #[s, y], argTypes := #[72, 72] })
    {v : Value} {rs us : List Rc} (hs : a.eval s = v) (hown : MadeR w0 v rs w) {B : Nat} {A : Option Addr} {m c : Nat} (hy : a.eval y = .slice A m c) (hr : Row w B A (rcsAll us))
    (hl : us.length = m) (hA : A = none → c = 0) (hn : rs.length + m ≤ 2000)
    (h : ∀ v' w', MadeR w0 v' (rs ++ us) w' → wpList Try.prog ops Q rest (a.put o.dst v') w') :
    wpList Try.prog ops Q (o :: rest) a w := by
  obtain ⟨i, hi, hz, hz1, hz2⟩ := info_parts info_slot
  subst hl
  cases A with
  | none =>
    have hc := hA rfl
    subst hc
    have hu : us = [] := by
      cases us with
      | nil => rfl
      | cons u r =>
        obtain ⟨b, o', he, _⟩ := hr 0 (.bool u.s.isSome) rfl
        cases he
    subst hu
    refine wpList_append_own_none hgd s y 72 ho w0.heap.size 74 i 2 Try.underlying72 hi v rs.length (rcsAll rs) hs hown.1 hy ?_
    exact h v w (by rw [List.append_nil]; exact hown)
  | some ad =>
    refine wpList_append_own_at _ hgd s y 72 ho w0.heap.size 74 i _ 2 32 Try.underlying72 hi hz hz1 hz2 rfl (by decide) v rs.length (rcsAll rs) hs hown.1 ad us.length c (rcsAll us) hy (rcsAll_len us) ?_ (rcsAll_one us) (by unfold maxLen; omega) (by omega) hown.2.size fun v' w' g1 g2 _ g3 => h v' w' ⟨?_, hown.2.grown g2 hown.2.size (fun k hk => (hown.1.lt k hk).1)⟩
    · intro j u hu
      obtain ⟨b, o', he, _, hc⟩ := hr j u hu
      have he : ad = ⟨b, o', none⟩ := by injection he
      subst he
      have e2 : (⟨b, o', none⟩ : Addr).add j = ⟨b, o' + j, none⟩ := by unfold Addr.add; split <;> simp_all
      rw [e2]; exact hc
    · rw [rcsAll_app, List.length_append]
      exact g1
end Go.Proofs.Ythcilmlaoddckaa.Pg
/- The document's small calls on slots: how many bytes they take, whether there is data, trimmed, copied, which are not empty; are numbers the same. -/
namespace Go.Proofs.Ythcilmlaoddckaa.Pg
open Go.RowKit Go.Proofs.Ythcilmlaoddckaa.Mem Go.Proofs.Ythcilmlaoddckaa.Right
set_option linter.unusedVariables false

theorem tot_sl {S : List Sl} {k : Nat} (h : k < S.length) : tot (S.take (k + 1)) = tot (S.take k) + ln (sl S k) := by
  have hs : S[k]? = some S[k] := List.getElem?_eq_getElem h
  rw [tot_next hs]
  unfold sl; rw [hs]; rfl
set_option maxHeartbeats 1000000 in
theorem size_ref (A : Option Addr) (n c : Nat) (S : List Sl) (w : World) (h : RL w A n c S) (hn : n ≤ 1000) (ht : tot S ≤ 100000) :
    Calls Try.prog 58 #[.slice A n c] w fun e w' => e = .returned (.int .i64 ((2 + 2 * n + tot S : Nat) : Int)) ∧ Below w.heap.size w w' := by
  have H := Lib.hid h
  have HL := Lib.hid h.len
  clear h
  go_enter Try.func58, Try.ntmps58
  go_wp2
  go_loopw [3, 4] (fun p i wr => ∃ (k T : Nat), k ≤ n ∧ T ≤ 100000 ∧ p = .int .i64 ((2 + 2 * n + T : Nat) : Int) ∧ i = .int .i64 k ∧ Hid (T = tot (S.take k)) ∧ Hid (Below w.heap.size w wr)) (fun _ i _ => n - (intOf i).toNat)
  case atStart => exact ⟨0, 0, Nat.zero_le _, by omega, by go_num, rfl, Lib.hid rfl, Lib.hid (Below.refl _ _)⟩
  case round =>
    obtain ⟨k, T, hk, hT, rfl, rfl, HT, HB⟩ := hrel
    by_cases hlt : k < n
    · obtain ⟨b, o, A', c', rfl, hb, c0, c1, hbs⟩ := (H.out.below HB.out).get hlt
      have HT2 := Lib.hid (show T + ln (sl S k) = tot (S.take (k + 1)) by rw [tot_sl (by rw [HL.out]; exact hlt), HT.out])
      have hle := tot_take S (k + 1)
      have hT3 : T + ln (sl S k) ≤ 100000 := by have := HT2.out; omega
      have hlt' : (k : Int) < (n : Int) := by omega
      clear hbs hle
      obtain ⟨d, hd⟩ : ∃ d, ln (sl S k) = d := ⟨_, rfl⟩
      rw [hd] at c1 hT3 HT2
      clear hd
      go_wp2
      go_roundw
      case rel => exact ⟨k + 1, T + d, by omega, hT3, by go_num, by go_num, HT2, HB⟩
      case measure => simp [intOf]; omega
    · obtain rfl : k = n := by omega
      go_wp2
      go_ret
      exact ⟨ri (by have := HT.out; rw [List.take_of_length_le (by rw [HL.out]; exact Nat.le_refl _)] at this; omega), HB.out⟩
set_option maxHeartbeats 1000000 in
theorem has_ref (A : Option Addr) (n c : Nat) (S : List Sl) (z : Int) (x : Bool) (hx : decide (0 ≤ z ∧ full S z.toNat = true) = x) (w : World) (h : RL w A n c S) :
    Calls Try.prog 59 #[.slice A n c, .int .i64 z] w fun e w' => e = .returned (.bool x) ∧ Below w.heap.size w w' := by
  have HL := Lib.hid h.len
  by_cases hz : 0 ≤ z
  · obtain ⟨k, rfl⟩ := Int.eq_ofNat_of_zero_le hz
    rw [Int.toNat_natCast] at hx
    by_cases hlt : k < n
    · obtain ⟨b, o, A', c', rfl, hb, c0, c1, _⟩ := h.get hlt
      have HX := Lib.hid (show (sl S k).isSome = x by rw [← hx, full_sl]; simp)
      have hlt' : (k : Int) < (n : Int) := by omega
      have d1 : decide ((0 : Int) ≤ (k : Int)) = true := decide_eq_true (by omega)
      have d2 : decide (k < n) = true := decide_eq_true hlt
      clear hx h c1
      go_enter Try.func59, Try.ntmps59
      go_wp2
      go_ret
      exact ⟨rb HX.out, Below.refl _ _⟩
    · have HX := Lib.hid (show false = x by rw [← hx, full_not (by rw [HL.out]; omega)]; simp)
      have hlt' : ¬ (k : Int) < (n : Int) := by omega
      have d1 : decide ((0 : Int) ≤ (k : Int)) = true := decide_eq_true (by omega)
      have d2 : decide (k < n) = false := decide_eq_false hlt
      clear hx h
      go_enter Try.func59, Try.ntmps59
      go_wp2
      go_ret
      exact ⟨rb HX.out, Below.refl _ _⟩
  · have HX := Lib.hid (show false = x by rw [← hx]; simp [hz])
    have d1 : decide ((0 : Int) ≤ z) = false := decide_eq_false hz
    clear hx h
    go_enter Try.func59, Try.ntmps59
    go_wp2
    go_ret
    exact ⟨rb HX.out, Below.refl _ _⟩
theorem lst_down {S : List Sl} {k : Nat} (hk : k < S.length) (h : sl S k = none) : lst (S.take (k + 1)) = lst (S.take k) := by
  have hs : S[k]? = some S[k] := List.getElem?_eq_getElem hk
  rw [lst_next hs]
  unfold sl at h
  rw [hs] at h
  simp at h
  rw [h]; rfl
theorem lst_stop {S : List Sl} {k : Nat} (hk : k < S.length) (h : (sl S k).isSome = true) : lst (S.take (k + 1)) = k + 1 := by
  have hs : S[k]? = some S[k] := List.getElem?_eq_getElem hk
  rw [lst_next hs]
  unfold sl at h
  rw [hs] at h
  simp at h
  rw [if_pos h]
set_option maxHeartbeats 1000000 in
theorem trim_ref (b o n c : Nat) (S : List Sl) (w : World) (h : RL w (some ⟨b, o, none⟩) n c S) :
    Calls Try.prog 60 #[.slice (some ⟨b, o, none⟩) n c] w fun e w' => e = .returned (.slice (some ⟨b, o, none⟩) (lst S) c) ∧ Below w.heap.size w w' := by
  have H := Lib.hid h
  have HL := Lib.hid h.len
  have hn64 : n ≤ 9223372036854775807 := by obtain ⟨_, _, _, _, h3, h4, _⟩ := h; omega
  have hnc : n ≤ c := by obtain ⟨_, _, _, _, h3, h4, _⟩ := h; omega
  clear h
  go_enter Try.func60, Try.ntmps60
  go_wp2
  go_loopw [3] (fun i wr => ∃ k : Nat, k ≤ n ∧ i = .int .i64 k ∧ Hid (lst (S.take k) = lst S) ∧ Hid (Below w.heap.size w wr)) (fun i _ => (intOf i).toNat)
  case atStart => exact ⟨n, Nat.le_refl _, rfl, Lib.hid (by rw [List.take_of_length_le (by rw [HL.out]; exact Nat.le_refl _)]), Lib.hid (Below.refl _ _)⟩
  case round =>
    obtain ⟨k, hk, rfl, HT, HB⟩ := hrel
    rcases Nat.eq_zero_or_pos k with h0 | hpos
    · subst h0
      have HS := Lib.hid (show lst S = 0 by rw [← HT.out]; rfl)
      go_wp2
      go_ret
      exact ⟨by rw [HS.out]; rfl, HB.out⟩
    · obtain ⟨j, rfl⟩ : ∃ j, k = j + 1 := ⟨k - 1, by omega⟩
      obtain ⟨b', o', A', c', e, hb, c0, c1, _⟩ := (H.out.below HB.out).get (k := j) (by omega)
      injection e with e; injection e with e1 e2
      subst e1 e2
      clear c1
      have hj : (j : Int) < (n : Int) := by omega
      cases hs : sl S j with
      | none =>
        have HT2 := Lib.hid (show lst (S.take j) = lst S by rw [← HT.out, lst_down (by rw [HL.out]; omega) hs])
        rw [hs] at c0
        have c0' : wr.cell? ⟨b, o + j * 2, none⟩ = some (.bool false) := c0
        clear hs c0
        go_wp2
        go_roundw
        case rel => exact ⟨j, by omega, by go_num, HT2, HB⟩
        case measure => simp [intOf]
      | some d =>
        have HS := Lib.hid (show lst S = j + 1 by rw [← HT.out, lst_stop (by rw [HL.out]; omega) (by rw [hs]; rfl)])
        rw [hs] at c0
        have c0' : wr.cell? ⟨b, o + j * 2, none⟩ = some (.bool true) := c0
        clear hs c0
        go_wp2
        go_ret
        exact ⟨by rw [HS.out]; rfl, HB.out⟩
end Go.Proofs.Ythcilmlaoddckaa.Pg
/- The document's Put, Set and Drop of slots. -/
namespace Go.Proofs.Ythcilmlaoddckaa.Pg
open Go.RowKit Go.Proofs.Ythcilmlaoddckaa.Mem Go.Proofs.Ythcilmlaoddckaa.Right
set_option linter.unusedVariables false

/-- Slots that the call made, whose data can be read. -/
def CopyR (w : World) (S : List Sl) (v : Value) (w' : World) : Prop := ∃ rs, rs.map (fun r => r.s) = S ∧ MadeR w v rs w' ∧ Dats w' rs
theorem copied_ref (A : Option Addr) (n c : Nat) (S : List Sl) (w : World) (h : RL w A n c S) (hn : n ≤ 1000) :
    Calls Try.prog 57 #[.slice A n c] w fun e w' => ∃ v, e = .returned v ∧ CopyR w S v w' := by
  obtain ⟨rs, e, h1, h2, h3, h4, h5, h6, _⟩ := h
  have M0 : MadeR w (.slice none 0 0) [] w := ⟨World.ownsRow_nil _ _ _ _, Below.refl _ _⟩
  have HM0 := Lib.hid M0
  have HR := Lib.hid h1
  have H2 := Lib.hid h2
  have H5 := Lib.hid h5
  have H6 := Lib.hid h6
  have HE := Lib.hid e
  have hl : ([] : List Rc).length + n ≤ 2000 := by simp; omega
  have HL := Lib.hid hl
  clear M0 h1 h2 h5 h6 e hl
  go_enter Try.func57, Try.ntmps57
  go_wp2_with (at_builtin; refine wp_rcs (.tmp 4) (.tmp 5) rfl rfl rfl HM0.out rfl HR.out H2.out H5.out HL.out ?_; intro v' w1 m1; have HM := Lib.hid m1; clear m1)
  go_ret
  exact ⟨_, rfl, rs, HE.out, by have := HM.out; rwa [List.nil_append] at this, H6.out.below HM.out.2⟩
theorem CopyR.below {w w' w2 : World} {S : List Sl} {v : Value} (h : CopyR w S v w') (hb : Below w'.heap.size w' w2) : CopyR w S v w2 := by
  obtain ⟨rs, e, h1, h2⟩ := h
  refine ⟨rs, e, ⟨?_, on h1.2 hb⟩, h2.below hb⟩
  obtain ⟨a, b⟩ := h1.1
  refine ⟨a, ?_⟩
  rcases b with b | ⟨g, cap, cur, e1, hg, hh, rest⟩
  · exact .inl b
  · exact .inr ⟨g, cap, cur, e1, hg, (hb.block g (blk_lt hh)).trans hh, rest⟩
theorem CopyR.form {w w' : World} {S : List Sl} {v : Value} (h : CopyR w S v w') (h0 : 0 < S.length) : ∃ g c, v = .slice (some ⟨g, 0, none⟩) S.length c ∧ w.heap.size ≤ g ∧ g < w'.heap.size := by
  obtain ⟨rs, e, h1, _⟩ := h
  have hl : rs.length = S.length := by rw [← e, List.length_map]
  obtain ⟨g, c, ev, hg⟩ := h1.form (by omega)
  exact ⟨g, c, by rw [ev, hl], hg⟩
theorem CopyR.at_ {w w' : World} {S : List Sl} {g n c k : Nat} (h : CopyR w S (.slice (some ⟨g, 0, none⟩) n c) w') (hn : S.length = n) (hk : k < n) :
    (∃ x, w'.cell? ⟨g, k * 2, none⟩ = some x) ∧ (∃ x, w'.cell? ⟨g, k * 2 + 1, none⟩ = some x) ∧ w'.frozen? ⟨g, k * 2, none⟩ = false ∧ w'.frozen? ⟨g, k * 2 + 1, none⟩ = false := by
  obtain ⟨rs, e, h1, _⟩ := h
  exact h1.at_ (by rw [← hn, ← e, List.length_map]) hk
theorem Dats.cell {w : World} {rs : List Rc} {g i : Nat} {v : Value} (h : Dats w rs) (w0 : World) (hw : ∀ r ∈ rs, Bs w0 r.A (ln r.s) r.c (dat r.s)) (hb : Below w0.heap.size w0 (w.setCell ⟨g, i, none⟩ v)) : Dats (w.setCell ⟨g, i, none⟩ v) rs :=
  fun r hr => (hw r hr).below hb
/-- A slot of slots of the call's own, written: its data lie where the call began. -/
theorem CopyR.set {w w' : World} {S : List Sl} {g n c k : Nat} (s : Sl) (A2 : Option Addr) (c2 : Nat) (h : ∃ rs, rs.map (fun r => r.s) = S ∧ MadeR w (.slice (some ⟨g, 0, none⟩) n c) rs w' ∧ Dats w rs) (hn : S.length = n) (hk : k < n) (hg : w.heap.size ≤ g) (hd : Bs w A2 (ln s) c2 (dat s)) :
    ∃ rs, rs.map (fun r => r.s) = S.set k s ∧ MadeR w (.slice (some ⟨g, 0, none⟩) n c) rs ((w'.setCell ⟨g, k * 2, none⟩ (.bool s.isSome)).setCell ⟨g, k * 2 + 1, none⟩ (.slice A2 (ln s) c2)) ∧ Dats w rs := by
  obtain ⟨rs, e, h1, h2⟩ := h
  refine ⟨rs.set k ⟨s, A2, c2⟩, by rw [List.map_set, e], h1.set ⟨s, A2, c2⟩ (by rw [← hn, ← e, List.length_map]) hk hg, ?_⟩
  intro r hr
  rcases List.mem_or_eq_of_mem_set hr with hr | rfl
  · exact h2 r hr
  · exact hd
/-- The same, of data that lie where the call began. -/
def CopyO (w : World) (S : List Sl) (v : Value) (w' : World) : Prop := ∃ rs, rs.map (fun r => r.s) = S ∧ MadeR w v rs w' ∧ Dats w rs
theorem CopyO.rl {w w' : World} {S : List Sl} {v : Value} (h : CopyO w S v w') : ∃ A c, v = .slice A S.length c ∧ RL w' A S.length c S := by
  obtain ⟨rs, e, h1, h2⟩ := h
  exact h1.rl e (h2.below h1.2)
theorem CopyO.copy {w w' : World} {S : List Sl} {v : Value} (h : CopyO w S v w') : CopyR w S v w' := by
  obtain ⟨rs, e, h1, h2⟩ := h
  exact ⟨rs, e, h1, h2.below h1.2⟩
theorem CopyO.below {w w' w2 : World} {S : List Sl} {v : Value} (h : CopyO w S v w') (hb : Below w'.heap.size w' w2) : CopyO w S v w2 := by
  obtain ⟨rs, e, h1, h2⟩ := h
  obtain ⟨rs', e', h1', _⟩ := CopyR.below ⟨rs, e, h1, h2.below h1.2⟩ hb
  refine ⟨rs, e, ⟨?_, on h1.2 hb⟩, h2⟩
  obtain ⟨a, b⟩ := h1.1
  refine ⟨a, ?_⟩
  rcases b with b | ⟨g, cap, cur, e1, hg, hh, rest⟩
  · exact .inl b
  · exact .inr ⟨g, cap, cur, e1, hg, (hb.block g (blk_lt hh)).trans hh, rest⟩
/-- copied, and that the data lie where the call began. -/
theorem copied_got (A : Option Addr) (n c : Nat) (S : List Sl) (w0 w : World) (h0 : RL w0 A n c S) (hw : Below w0.heap.size w0 w) (hn : n ≤ 1000) :
    Calls Try.prog 57 #[.slice A n c] w fun e w' => ∃ v, e = .returned v ∧ CopyO w0 S v w' := by
  obtain ⟨rs, e, h1, h2, h3, h4, h5, h6, _⟩ := h0
  have M0 : MadeR w0 (.slice none 0 0) [] w := ⟨World.ownsRow_nil _ _ _ _, hw⟩
  have HM0 := Lib.hid M0
  have HR := Lib.hid (h1.below hw (Nat.le_refl _))
  have H2 := Lib.hid h2
  have H5 := Lib.hid h5
  have H6 := Lib.hid h6
  have HE := Lib.hid e
  have hl : ([] : List Rc).length + n ≤ 2000 := by simp; omega
  have HL := Lib.hid hl
  clear M0 h1 h2 h5 h6 e hl
  go_enter Try.func57, Try.ntmps57
  go_wp2_with (at_builtin; refine wp_rcs (.tmp 4) (.tmp 5) rfl rfl rfl HM0.out rfl HR.out H2.out H5.out HL.out ?_; intro v' w1 m1; have HM := Lib.hid m1; clear m1)
  go_ret
  exact ⟨_, rfl, rs, HE.out, by have := HM.out; rwa [List.nil_append] at this, H6.out⟩
/-- The answer of the document's Put. -/
def RefP (w : World) (x : Option (List Sl)) (k err : Int) (e : Ending) (w' : World) : Prop :=
  (match x with
  | none => e = .returned (.tuple #[.slice none 0 0, .int .i64 k, .int .i64 err])
  | some S => ∃ A c, e = .returned (.tuple #[.slice A S.length c, .int .i64 k, .int .i64 0]) ∧ RL w' A S.length c S) ∧ Below w.heap.size w w'
theorem size_over {S : List Sl} {d : List UInt8} (h : Fit S) : 512 < 2 + 2 * (upd S (freeN S) d).length + tot (upd S (freeN S) d) ↔ roomN S < needN S d.length := by
  have hle := freeN_le S
  have hr := h.room
  unfold upd needN roomN
  by_cases hk : freeN S = S.length
  · rw [if_pos hk, if_neg (by omega), List.length_append, tot_app]
    show 512 < 2 + 2 * (S.length + 1) + (tot S + (d.length + 0)) ↔ _
    omega
  · have hlt : freeN S < S.length := by omega
    rw [if_neg hk, if_pos hlt]
    obtain ⟨S1, S2, e1, e2, e3⟩ := split_at (freeN_none hlt)
    have e4 : S.set (freeN S) (some d) = S1 ++ some d :: S2 := by
      conv => lhs; rw [e1]
      rw [set_mid S1 none (some d) S2 (by rw [e2, ← e1])]
    have htm : tot S = tot S1 + ln none + tot S2 := by rw [e1, tot_mid]
    have hl : S.length = S1.length + 1 + S2.length := by rw [e1]; simp; omega
    rw [e4, tot_mid, List.length_append, List.length_cons]
    have h0 : ln (none : Sl) = 0 := rfl
    have h1 : ln (some d) = d.length := rfl
    omega
theorem upd_len {S : List Sl} {d : List UInt8} : (upd S (freeN S) d).length = if freeN S = S.length then S.length + 1 else S.length := by
  have hle := freeN_le S
  unfold upd
  by_cases hk : freeN S = S.length
  · rw [if_pos hk, if_neg (by omega)]; simp
  · rw [if_neg hk, if_pos (by omega)]; simp
theorem tot_small {S : List Sl} (h : Fit S) {d : List UInt8} (hd : d.length ≤ 255) : tot (upd S (freeN S) d) ≤ 100000 := by
  have hr := h.room
  unfold upd
  split
  · rename_i hlt
    obtain ⟨S1, S2, e1, e2, e3⟩ := split_at (List.getElem?_eq_getElem hlt)
    have e4 : S.set (freeN S) (some d) = S1 ++ some d :: S2 := by
      conv => lhs; rw [e1]
      rw [set_mid S1 _ (some d) S2 (by rw [e2, ← e1])]
    have htm : tot S = tot S1 + ln S[freeN S] + tot S2 := by
      conv => lhs; rw [e1]
      rw [tot_mid]
    rw [e4, tot_mid]
    have h1 : ln (some d) = d.length := rfl
    omega
  · rw [tot_app]
    show tot S + (d.length + 0) ≤ _
    omega
end Go.Proofs.Ythcilmlaoddckaa.Pg
/- The document's Drop of slots. -/
namespace Go.Proofs.Ythcilmlaoddckaa.Pg
open Go.RowKit Go.Proofs.Ythcilmlaoddckaa.Mem Go.Proofs.Ythcilmlaoddckaa.Right
set_option linter.unusedVariables false

/-- The answer of the document's Set and Drop. -/
def RefG (w : World) (x : Option (List Sl)) (err : Int) (e : Ending) (w' : World) : Prop :=
  (match x with
  | none => e = .returned (.tuple #[.slice none 0 0, .int .i64 err])
  | some S => ∃ A c, e = .returned (.tuple #[.slice A S.length c, .int .i64 0]) ∧ RL w' A S.length c S) ∧ Below w.heap.size w w'
theorem RL.take {w : World} {A : Option Addr} {n c : Nat} {S : List Sl} (h : RL w A n c S) (k : Nat) (hk : k ≤ n) : RL w A k c (S.take k) := by
  obtain ⟨rs, e, h1, h2, h3, h4, h5, h6, h7⟩ := h
  refine ⟨rs.take k, by rw [List.map_take, e], ?_, by rw [List.length_take]; omega, by omega, h4, h5, (fun r hr => h6 r (List.mem_of_mem_take hr)), h7⟩
  rw [rcsAll_take]
  exact fun k u hu => h1 k u (by rw [List.getElem?_take] at hu; split at hu; exact hu; cases hu)
theorem no_data (w : World) : Bs w none 0 0 [] := nil_bs w
set_option maxHeartbeats 1000000 in
theorem drop_ref_no (A : Option Addr) (n c : Nat) (S : List Sl) (z : Int) (w : World) (h : RL w A n c S) (hf : ¬ (0 ≤ z ∧ full S z.toNat = true)) :
    Calls Try.prog 41 #[.slice A n c, .int .i64 z] w (RefG w none 4) := by
  have H := Lib.hid (has_ref A n c S z false (decide_eq_false hf) w h)
  clear h hf
  go_enter Try.func41, Try.ntmps41
  go_wp2_with (go_at_call 59; (with_reducible refine H.out.mono ?_); rintro e w1 ⟨rfl, hb1⟩; have HB1 := Lib.hid hb1; clear hb1)
  go_ret2
  exact ⟨rfl, HB1.out⟩
set_option maxHeartbeats 1000000 in
theorem drop_ref_yes (A : Option Addr) (n c k : Nat) (S : List Sl) (w : World) (h : RL w A n c S) (hn : n ≤ 1000) (hk : k < n) (hf : full S k = true) :
    Calls Try.prog 41 #[.slice A n c, .int .i64 (k : Int)] w (RefG w (some (drp S k)) 0) := by
  have H := Lib.hid (has_ref A n c S (k : Int) true (decide_eq_true ⟨by omega, by rw [Int.toNat_natCast]; exact hf⟩) w h)
  have HR := Lib.hid h
  have hl := h.len
  have HL := Lib.hid hl
  have hlt' : (k : Int) < (n : Int) := by omega
  clear h hf
  go_enter Try.func41, Try.ntmps41
  go_wp2_with (go_at_call 59; (with_reducible refine H.out.mono ?_); rintro e w1 ⟨rfl, hb1⟩; have HB1 := Lib.hid hb1; clear hb1)
  go_at_call 57
  with_reducible refine (copied_got A n c S w w1 HR.out HB1.out hn).mono ?_
  rintro e w2 ⟨v, rfl, hm2⟩
  obtain ⟨g, cg, rfl, hg, hg2⟩ := hm2.copy.form (by omega)
  rw [hl] at hm2 ⊢
  obtain ⟨⟨x0, c0⟩, ⟨x1, c1⟩, f0, f1⟩ := hm2.copy.at_ hl hk
  have HM2 := Lib.hid hm2
  have HS := Lib.hid (show CopyO w (S.set k none) (.slice (some ⟨g, 0, none⟩) n cg) ((w2.setCell ⟨g, k * 2, none⟩ (.bool false)).setCell ⟨g, k * 2 + 1, none⟩ (.slice none 0 0)) from CopyR.set none none 0 hm2 hl hk hg (no_data w))
  obtain ⟨A3, c3, e3, hr3⟩ := CopyO.rl HS.out
  injection e3 with e3 e4 e5
  subst e3 e5
  have HR3 := Lib.hid hr3
  rw [← e4] at hr3
  have HT := Lib.hid (trim_ref g 0 n cg _ _ hr3)
  have HB2 := Lib.hid (show Below w.heap.size w ((w2.setCell ⟨g, k * 2, none⟩ (.bool false)).setCell ⟨g, k * 2 + 1, none⟩ (.slice none 0 0)) by obtain ⟨_, _, h1, _⟩ := HS.out; exact h1.2)
  clear hm2 hr3 e4
  go_wp2_with (go_at_call 60; (with_reducible refine HT.out.mono ?_); rintro e w3 ⟨rfl, hb3⟩; have HB3 := Lib.hid hb3; clear hb3)
  go_ret2
  have hle := lst_le (S.set k none)
  have hn' : (drp S k).length = lst (S.set k none) := by unfold drp; rw [List.length_take]; omega
  refine ⟨⟨some ⟨g, 0, none⟩, cg, by rw [hn']; rfl, ?_⟩, on HB2.out HB3.out⟩
  rw [hn']
  exact (HR3.out.take _ hle).below HB3.out
/-- The document's Drop. -/
theorem drop_ref (A : Option Addr) (n c : Nat) (S : List Sl) (z : Int) (w : World) (h : RL w A n c S) (hn : n ≤ 1000) (x : Option (List Sl)) (y : Int) (hx : dropV S z = (x, y)) :
    Calls Try.prog 41 #[.slice A n c, .int .i64 z] w (RefG w x y) := by
  unfold dropV at hx
  split at hx
  · rename_i hf
    obtain ⟨k, rfl⟩ := Int.eq_ofNat_of_zero_le hf.1
    rw [Int.toNat_natCast] at hf hx
    cases hx
    have hk : k < n := by
      rw [← h.len]
      exact Nat.lt_of_not_le fun h' => by rw [full_not h'] at hf; exact absurd hf.2 (by decide)
    exact drop_ref_yes A n c k S w h hn hk hf.2
  · rename_i hf
    cases hx
    exact drop_ref_no A n c S z w h hf
end Go.Proofs.Ythcilmlaoddckaa.Pg
/- The document's Put and Set of slots. -/
namespace Go.Proofs.Ythcilmlaoddckaa.Pg
open Go.RowKit Go.Proofs.Ythcilmlaoddckaa.Mem Go.Proofs.Ythcilmlaoddckaa.Right
set_option linter.unusedVariables false

set_option maxHeartbeats 1000000 in
theorem set_ref_long (A A2 : Option Addr) (n c m c2 : Nat) (S : List Sl) (z : Int) (w : World) (hm : 255 < m) :
    Calls Try.prog 40 #[.slice A n c, .int .i64 z, .slice A2 m c2] w (RefG w none 3) := by
  have t1 : (255 : Int) < (m : Int) := by omega
  go_enter Try.func40, Try.ntmps40
  go_wp2
  go_ret2
  exact ⟨rfl, Below.refl _ _⟩
set_option maxHeartbeats 1000000 in
theorem set_ref_no (A A2 : Option Addr) (n c m c2 : Nat) (S : List Sl) (z : Int) (w : World) (h : RL w A n c S) (hm : m ≤ 255) (hf : ¬ (0 ≤ z ∧ full S z.toNat = true)) :
    Calls Try.prog 40 #[.slice A n c, .int .i64 z, .slice A2 m c2] w (RefG w none 4) := by
  have H := Lib.hid (has_ref A n c S z false (decide_eq_false hf) w h)
  have t1 : ¬ (255 : Int) < (m : Int) := by omega
  clear h hf
  go_enter Try.func40, Try.ntmps40
  go_wp2_with (go_at_call 59; (with_reducible refine H.out.mono ?_); rintro e w1 ⟨rfl, hb1⟩; have HB1 := Lib.hid hb1; clear hb1)
  go_ret2
  exact ⟨rfl, HB1.out⟩
/-- The world behind a slot that was written. -/
def wrote (w : World) (g k : Nat) (A : Option Addr) (m c : Nat) : World := (w.setCell ⟨g, k * 2, none⟩ (.bool true)).setCell ⟨g, k * 2 + 1, none⟩ (.slice A m c)
set_option maxHeartbeats 1000000 in
theorem set_ref_yes (A A2 : Option Addr) (n c k m c2 : Nat) (S : List Sl) (d : List UInt8) (w : World) (h : RL w A n c S) (hn : n ≤ 1000) (hm : m ≤ 255) (hd : Bs w A2 m c2 d) (hk : k < n) (hf : full S k = true) (ht : tot (S.set k (some d)) ≤ 100000)
    (x : Bool) (hx : decide (512 < 2 + 2 * n + tot (S.set k (some d))) = x) :
    Calls Try.prog 40 #[.slice A n c, .int .i64 (k : Int), .slice A2 m c2] w (if x = true then RefG w none 5 else RefG w (some (S.set k (some d))) 0) := by
  have H := Lib.hid (has_ref A n c S (k : Int) true (decide_eq_true ⟨by omega, by rw [Int.toNat_natCast]; exact hf⟩) w h)
  have HR := Lib.hid h
  have hl := h.len
  have hdl : d.length = m := hd.2.1
  have hls : (S.set k (some d)).length = n := by rw [List.length_set]; exact hl
  have hlt' : (k : Int) < (n : Int) := by omega
  have t1 : ¬ (255 : Int) < (m : Int) := by omega
  clear h hf
  go_enter Try.func40, Try.ntmps40
  go_wp2_with (go_at_call 59; (with_reducible refine H.out.mono ?_); rintro e w1 ⟨rfl, hb1⟩; have HB1 := Lib.hid hb1; clear hb1)
  go_at_call 57
  with_reducible refine (copied_got A n c S w w1 HR.out HB1.out hn).mono ?_
  rintro e w2 ⟨v, rfl, hm2⟩
  obtain ⟨g, cg, rfl, hg, hg2⟩ := hm2.copy.form (by omega)
  rw [hl] at hm2 ⊢
  obtain ⟨⟨x0, c0⟩, ⟨x1, c1⟩, f0, f1⟩ := hm2.copy.at_ hl hk
  have HS := Lib.hid (show CopyO w (S.set k (some d)) (.slice (some ⟨g, 0, none⟩) n cg) ((w2.setCell ⟨g, k * 2, none⟩ (.bool true)).setCell ⟨g, k * 2 + 1, none⟩ (.slice A2 m c2)) from hdl ▸ CopyR.set (some d) A2 c2 hm2 hl hk hg (by show Bs w A2 d.length c2 d; rw [hdl]; exact hd))
  obtain ⟨A3, c3, e3, hr3⟩ := CopyO.rl HS.out
  injection e3 with e3 e4 e5
  subst e3 e5
  have HR3 := Lib.hid hr3
  rw [hls] at hr3
  have HT := Lib.hid (size_ref _ n cg _ _ hr3 hn ht)
  have HB2 := Lib.hid (show Below w.heap.size w ((w2.setCell ⟨g, k * 2, none⟩ (.bool true)).setCell ⟨g, k * 2 + 1, none⟩ (.slice A2 m c2)) by obtain ⟨_, _, h1, _⟩ := HS.out; exact h1.2)
  obtain ⟨T, hT⟩ : ∃ T, 2 + 2 * n + tot (S.set k (some d)) = T := ⟨_, rfl⟩
  rw [hT] at HT hx
  clear hm2 hr3 e4 hd ht hT
  cases x with
  | true =>
    have hx' : (512 : Int) < (T : Int) := by have := of_decide_eq_true hx; omega
    clear hx
    go_wp2_with (go_at_call 58; (with_reducible refine HT.out.mono ?_); rintro e w3 ⟨rfl, hb3⟩; have HB3 := Lib.hid hb3; clear hb3)
    go_ret2
    exact ⟨rfl, on HB2.out HB3.out⟩
  | false =>
    have hx' : ¬ (512 : Int) < (T : Int) := by have := of_decide_eq_false hx; omega
    clear hx
    go_wp2_with (go_at_call 58; (with_reducible refine HT.out.mono ?_); rintro e w3 ⟨rfl, hb3⟩; have HB3 := Lib.hid hb3; clear hb3)
    go_ret2
    refine ⟨⟨some ⟨g, 0, none⟩, cg, by rw [hls]; rfl, ?_⟩, on HB2.out HB3.out⟩
    exact HR3.out.below HB3.out
theorem set_tot {S : List Sl} {k : Nat} {d : List UInt8} (hk : k < S.length) : tot (S.set k (some d)) + ln (S[k]?.getD none) = tot S + d.length := by
  have hs : S[k]? = some S[k] := List.getElem?_eq_getElem hk
  obtain ⟨S1, S2, e1, e2, e3⟩ := split_at hs
  have e4 : S.set k (some d) = S1 ++ some d :: S2 := by
    conv => lhs; rw [e1]
    rw [set_mid S1 _ (some d) S2 e2]
  have htm : tot S = tot S1 + ln S[k] + tot S2 := by
    conv => lhs; rw [e1]
    rw [tot_mid]
  rw [e4, tot_mid, htm, hs]
  have h1 : ln (some d) = d.length := rfl
  show _ + ln S[k] = _
  omega
/-- The document's Set. -/
theorem set_ref (A A2 : Option Addr) (n c m c2 : Nat) (S : List Sl) (z : Int) (d : List UInt8) (w : World) (h : RL w A n c S) (hS : Ok S) (hd : Bs w A2 m c2 d) (x : Option (List Sl)) (y : Int) (hx : setV S z d = (x, y)) :
    Calls Try.prog 40 #[.slice A n c, .int .i64 z, .slice A2 m c2] w (RefG w x y) := by
  have hm : d.length = m := hd.2.1
  have hfit := hS.fit.room
  have hl := h.len
  unfold setV at hx
  by_cases h5 : 255 < d.length
  · rw [if_pos h5] at hx
    cases hx
    exact set_ref_long A A2 n c m c2 S z w (by omega)
  · rw [if_neg h5] at hx
    by_cases hf : 0 ≤ z ∧ full S z.toNat = true
    · rw [if_pos hf] at hx
      obtain ⟨k, rfl⟩ := Int.eq_ofNat_of_zero_le hf.1
      rw [Int.toNat_natCast] at hf hx
      have hk : k < S.length := Nat.lt_of_not_le fun h' => by rw [full_not h'] at hf; exact absurd hf.2 (by decide)
      have ht := set_tot (d := d) hk
      have hbig : tot (S.set k (some d)) ≤ 100000 := by omega
      have hgo := fun x hx => set_ref_yes A A2 n c k m c2 S d w h (by omega) (by omega) hd (by omega) hf.2 hbig x hx
      unfold roomN at hx
      by_cases ho : ln (S[k]?.getD none) + (510 - 2 * S.length - tot S) < d.length
      · rw [if_pos ho] at hx
        cases hx
        exact hgo true (decide_eq_true (by omega))
      · rw [if_neg ho] at hx
        cases hx
        exact hgo false (decide_eq_false (by omega))
    · rw [if_neg hf] at hx
      cases hx
      exact set_ref_no A A2 n c m c2 S z w h (by omega) hf
end Go.Proofs.Ythcilmlaoddckaa.Pg
/- The document's Put of slots. -/
namespace Go.Proofs.Ythcilmlaoddckaa.Pg
open Go.RowKit Go.Proofs.Ythcilmlaoddckaa.Mem Go.Proofs.Ythcilmlaoddckaa.Right
set_option linter.unusedVariables false

set_option maxHeartbeats 1000000 in
theorem put_ref_long (A A2 : Option Addr) (n c m c2 : Nat) (w : World) (hm : 255 < m) :
    Calls Try.prog 38 #[.slice A n c, .slice A2 m c2] w (RefP w none 0 3) := by
  have t1 : (255 : Int) < (m : Int) := by omega
  go_enter Try.func38, Try.ntmps38
  go_wp2
  go_ret3
  exact ⟨rfl, Below.refl _ _⟩
set_option maxHeartbeats 1000000 in
theorem put_ref_mid (A A2 : Option Addr) (n c k m c2 : Nat) (S : List Sl) (d : List UInt8) (w : World) (h : RL w A n c S) (hn : n ≤ 1000) (hm : m ≤ 255) (hd : Bs w A2 m c2 d) (hk : k < n) (hf : freeN S = k) (ht : tot (S.set k (some d)) ≤ 100000)
    (x : Bool) (hx : decide (512 < 2 + 2 * n + tot (S.set k (some d))) = x) :
    Calls Try.prog 38 #[.slice A n c, .slice A2 m c2] w (if x = true then RefP w none 0 5 else RefP w (some (S.set k (some d))) k 0) := by
  have HR := Lib.hid h
  have hl := h.len
  have hdl : d.length = m := hd.2.1
  have hls : (S.set k (some d)).length = n := by rw [List.length_set]; exact hl
  have HF := Lib.hid hf
  have HD := Lib.hid hd
  have HT0 := Lib.hid ht
  have HX := Lib.hid hx
  have t1 : ¬ (255 : Int) < (m : Int) := by omega
  clear h hf hd ht hx
  go_enter Try.func38, Try.ntmps38
  go_wp2
  go_loopw [7] (fun i wr => ∃ j : Nat, j ≤ k ∧ i = .int .i64 j ∧ Hid (Below w.heap.size w wr)) (fun i _ => n - (intOf i).toNat)
  case atStart => exact ⟨0, Nat.zero_le _, rfl, Lib.hid (Below.refl _ _)⟩
  case round =>
    obtain ⟨j, hj, rfl, HB1⟩ := hrel
    obtain ⟨b, o, A', c', rfl, hb, c0, c1, _⟩ := (HR.out.below HB1.out).get (k := j) (by omega)
    have hjn : (j : Int) < (n : Int) := by omega
    clear c1
    by_cases hlt : j < k
    · have hs : (sl S j).isSome = true := by rw [← full_sl]; exact freeN_full (by rw [HF.out]; exact hlt)
      rw [hs] at c0
      clear hs
      go_wp2
      go_roundw
      case rel => exact ⟨j + 1, by omega, by go_num, HB1⟩
      case measure => simp [intOf]; omega
    · obtain rfl : j = k := by omega
      have hs : (sl S j).isSome = false := by
        have := freeN_none (S := S) (by rw [HF.out]; omega)
        rw [HF.out] at this
        unfold sl; rw [this]; rfl
      rw [hs] at c0
      clear hs hlt
      have hx := HX.out
      obtain ⟨T, hT⟩ : ∃ T, 2 + 2 * n + tot (S.set j (some d)) = T := ⟨_, rfl⟩
      rw [hT] at hx
      have HTT := Lib.hid hT
      clear hT
      cases x
      case true =>
        have hx' : (512 : Int) < (T : Int) := by have := of_decide_eq_true hx; omega
        clear hx
        go_wp2_with first | (go_at_call 57; (with_reducible refine (copied_got _ n c S w _ HR.out HB1.out hn).mono ?_); rintro e w2 ⟨v, rfl, hm2⟩; clear c0; obtain ⟨g, cg, rfl, hg, hg2⟩ := hm2.copy.form (by omega); rw [hl] at hm2 ⊢; obtain ⟨⟨x0, c0⟩, ⟨x1, c1⟩, f0, f1⟩ := hm2.copy.at_ hl hk; have HS := Lib.hid (show CopyO w (S.set j (some d)) (.slice (some ⟨g, 0, none⟩) n cg) ((w2.setCell ⟨g, j * 2, none⟩ (.bool true)).setCell ⟨g, j * 2 + 1, none⟩ (.slice A2 m c2)) from hdl ▸ CopyR.set (some d) A2 c2 hm2 hl hk hg (by show Bs w A2 d.length c2 d; rw [hdl]; exact HD.out)); obtain ⟨A3, c3, e3, hr3⟩ := CopyO.rl HS.out; injection e3 with e3 e4 e5; subst e3 e5; have HR3 := Lib.hid hr3; rw [hls] at hr3; have HT := Lib.hid (size_ref _ _ cg _ _ hr3 (by omega) HT0.out); rw [HTT.out] at HT; have HB2 := Lib.hid (show Below w.heap.size w ((w2.setCell ⟨g, j * 2, none⟩ (.bool true)).setCell ⟨g, j * 2 + 1, none⟩ (.slice A2 m c2)) by obtain ⟨_, _, h1, _⟩ := HS.out; exact h1.2); clear hm2 hr3 e4) | (go_at_call 58; (with_reducible refine HT.out.mono ?_); rintro e w3 ⟨rfl, hb3⟩; have HB3 := Lib.hid hb3; clear hb3)
        go_ret3
        exact ⟨rfl, on HB2.out HB3.out⟩
      case false =>
        have hx' : ¬ (512 : Int) < (T : Int) := by have := of_decide_eq_false hx; omega
        clear hx
        go_wp2_with first | (go_at_call 57; (with_reducible refine (copied_got _ n c S w _ HR.out HB1.out hn).mono ?_); rintro e w2 ⟨v, rfl, hm2⟩; clear c0; obtain ⟨g, cg, rfl, hg, hg2⟩ := hm2.copy.form (by omega); rw [hl] at hm2 ⊢; obtain ⟨⟨x0, c0⟩, ⟨x1, c1⟩, f0, f1⟩ := hm2.copy.at_ hl hk; have HS := Lib.hid (show CopyO w (S.set j (some d)) (.slice (some ⟨g, 0, none⟩) n cg) ((w2.setCell ⟨g, j * 2, none⟩ (.bool true)).setCell ⟨g, j * 2 + 1, none⟩ (.slice A2 m c2)) from hdl ▸ CopyR.set (some d) A2 c2 hm2 hl hk hg (by show Bs w A2 d.length c2 d; rw [hdl]; exact HD.out)); obtain ⟨A3, c3, e3, hr3⟩ := CopyO.rl HS.out; injection e3 with e3 e4 e5; subst e3 e5; have HR3 := Lib.hid hr3; rw [hls] at hr3; have HT := Lib.hid (size_ref _ _ cg _ _ hr3 (by omega) HT0.out); rw [HTT.out] at HT; have HB2 := Lib.hid (show Below w.heap.size w ((w2.setCell ⟨g, j * 2, none⟩ (.bool true)).setCell ⟨g, j * 2 + 1, none⟩ (.slice A2 m c2)) by obtain ⟨_, _, h1, _⟩ := HS.out; exact h1.2); clear hm2 hr3 e4) | (go_at_call 58; (with_reducible refine HT.out.mono ?_); rintro e w3 ⟨rfl, hb3⟩; have HB3 := Lib.hid hb3; clear hb3)
        go_ret3
        refine ⟨⟨some ⟨g, 0, none⟩, cg, by rw [hls]; rfl, ?_⟩, on HB2.out HB3.out⟩
        exact HR3.out.below HB3.out
/-- A zero slot behind a copy. -/
theorem wp_slot {w0 w : World} {ops : Array Oper} {rest : List Oper} {o : Oper} {a : Act} {Q : Exit → Act → World → Prop} (s y : Operand)
    (hgd : o.guard = none) (ho : o.op = .call { callee := .builtin .append, args := #[s, y], argTypes := #[72, 72] })
    {v : Value} {S : List Sl} (hs : a.eval s = v) (hown : CopyO w0 S v w) (hy : a.eval y = .slice (some ⟨w.heap.size, 0, none⟩) 1 1) (hn : S.length ≤ 1000)
    (h : ∀ v' w', CopyO w0 (S ++ [none]) v' w' → wpList Try.prog ops Q rest (a.put o.dst v') w') :
    wpList Try.prog ops Q (o :: rest) a (w.alloc (.cells #[.bool false, .slice none 0 0] 74)) := by
  obtain ⟨rs, e, h1, h2⟩ := hown
  have hl : rs.length = S.length := by rw [← e, List.length_map]
  refine wp_rcs (w0 := w0) s y hgd ho (us := [⟨none, none, 0⟩]) hs (rs := rs) ⟨h1.1.alloc _, al h1.2 _⟩ hy (B := w.heap.size + 1) (fun k u hu => ?_) rfl (fun e => by cases e) (by omega) fun v' w' hm => h v' w' ⟨rs ++ [⟨none, none, 0⟩], by rw [List.map_append, e]; rfl, hm, ?_⟩
  · refine ⟨w.heap.size, 0, rfl, Nat.lt_succ_self _, ?_⟩
    have hB := (show CelL (w.alloc (.cells #[.bool false, .slice none 0 0] 74)) w.heap.size 74 [.bool false, .slice none 0 0] from Cel.new w 74 #[.bool false, .slice none 0 0] rfl).at_ k
    rw [Nat.zero_add, hB]
    exact hu
  · intro r hr
    rcases List.mem_append.1 hr with hr | hr
    · exact h2 r hr
    · simp at hr
      subst hr
      exact no_data w0
set_option maxHeartbeats 1000000 in
theorem put_ref_end (A A2 : Option Addr) (n c m c2 : Nat) (S : List Sl) (d : List UInt8) (w : World) (h : RL w A n c S) (hn : n ≤ 900) (hm : m ≤ 255) (hd : Bs w A2 m c2 d) (hf : freeN S = n) (ht : tot (S ++ [some d]) ≤ 100000)
    (x : Bool) (hx : decide (512 < 2 + 2 * (n + 1) + tot (S ++ [some d])) = x) :
    Calls Try.prog 38 #[.slice A n c, .slice A2 m c2] w (if x = true then RefP w none 0 5 else RefP w (some (S ++ [some d])) n 0) := by
  have HR := Lib.hid h
  have hl := h.len
  have hdl : d.length = m := hd.2.1
  have hl1 : (S ++ [none]).length = n + 1 := by rw [List.length_append, hl]; rfl
  have hset : (S ++ [none]).set n (some d) = S ++ [some d] := set_mid S none (some d) [] hl
  have hls : (S ++ [some d]).length = n + 1 := by rw [List.length_append, hl]; rfl
  have HF := Lib.hid hf
  have HD := Lib.hid hd
  have HT0 := Lib.hid ht
  have HX := Lib.hid hx
  have HSET := Lib.hid hset
  have HN := Lib.hid (show S.length ≤ 1000 by omega)
  have t1 : ¬ (255 : Int) < (m : Int) := by omega
  clear h hf hd ht hx hset
  go_enter Try.func38, Try.ntmps38
  go_wp2
  go_loopw [7] (fun i wr => ∃ j : Nat, j ≤ n ∧ i = .int .i64 j ∧ Hid (Below w.heap.size w wr)) (fun i _ => n - (intOf i).toNat)
  case atStart => exact ⟨0, Nat.zero_le _, rfl, Lib.hid (Below.refl _ _)⟩
  case round =>
    obtain ⟨j, hj, rfl, HB1⟩ := hrel
    by_cases hlt : j < n
    · obtain ⟨b, o, A', c', rfl, hb, c0, c1, _⟩ := (HR.out.below HB1.out).get (k := j) (by omega)
      have hjn : (j : Int) < (n : Int) := by omega
      clear c1
      have hs : (sl S j).isSome = true := by rw [← full_sl]; exact freeN_full (by rw [HF.out]; exact hlt)
      rw [hs] at c0
      clear hs
      go_wp2
      go_roundw
      case rel => exact ⟨j + 1, by omega, by go_num, HB1⟩
      case measure => simp [intOf]; omega
    · obtain rfl : j = n := by omega
      clear hlt
      have hx := HX.out
      obtain ⟨T, hT⟩ : ∃ T, 2 + 2 * (j + 1) + tot (S ++ [some d]) = T := ⟨_, rfl⟩
      rw [hT] at hx
      have HTT := Lib.hid hT
      have hjn : (j : Int) < ((j + 1 : Nat) : Int) := by omega
      clear hT
      cases x
      case true =>
        have hx' : (512 : Int) < (T : Int) := by have := of_decide_eq_true hx; omega
        clear hx
        go_wp2_with first | (go_at_call 57; go_loud ((with_reducible refine (copied_got _ j c S w _ HR.out HB1.out (by omega)).mono ?_); rintro e w2 ⟨v, rfl, hm2⟩; have HM2 := Lib.hid hm2; clear hm2)) | (at_builtin; go_loud (refine wp_slot _ _ rfl rfl rfl HM2.out rfl HN.out ?_; intro v' w3 m3; have HM3 := Lib.hid m3; obtain ⟨g, cg, ev, hg, hg2⟩ := m3.copy.form (by omega); rw [hl1] at ev; subst ev; obtain ⟨⟨x0, c0⟩, ⟨x1, c1⟩, f0, f1⟩ := m3.copy.at_ hl1 (Nat.lt_succ_self j); have HS := Lib.hid (show CopyO w (S ++ [some d]) (.slice (some ⟨g, 0, none⟩) (j + 1) cg) ((w3.setCell ⟨g, j * 2, none⟩ (.bool true)).setCell ⟨g, j * 2 + 1, none⟩ (.slice A2 m c2)) by (rw [← HSET.out]; exact (hdl ▸ CopyR.set (some d) A2 c2 m3 hl1 (Nat.lt_succ_self j) hg (by show Bs w A2 d.length c2 d; rw [hdl]; exact HD.out)))); obtain ⟨A3, c3, e3, hr3⟩ := CopyO.rl HS.out; injection e3 with e3 e4 e5; subst e3 e5; have HR3 := Lib.hid hr3; rw [hls] at hr3; have HT := Lib.hid (size_ref _ _ cg _ _ hr3 (by omega) HT0.out); rw [HTT.out] at HT; have HB2 := Lib.hid (show Below w.heap.size w ((w3.setCell ⟨g, j * 2, none⟩ (.bool true)).setCell ⟨g, j * 2 + 1, none⟩ (.slice A2 m c2)) by obtain ⟨_, _, h1, _⟩ := HS.out; exact h1.2); clear m3 hr3 e4)) | (go_at_call 58; (with_reducible refine HT.out.mono ?_); rintro e w3 ⟨rfl, hb3⟩; have HB3 := Lib.hid hb3; clear hb3)
        go_ret3
        exact ⟨rfl, on HB2.out HB3.out⟩
      case false =>
        have hx' : ¬ (512 : Int) < (T : Int) := by have := of_decide_eq_false hx; omega
        clear hx
        go_wp2_with first | (go_at_call 57; go_loud ((with_reducible refine (copied_got _ j c S w _ HR.out HB1.out (by omega)).mono ?_); rintro e w2 ⟨v, rfl, hm2⟩; have HM2 := Lib.hid hm2; clear hm2)) | (at_builtin; go_loud (refine wp_slot _ _ rfl rfl rfl HM2.out rfl HN.out ?_; intro v' w3 m3; have HM3 := Lib.hid m3; obtain ⟨g, cg, ev, hg, hg2⟩ := m3.copy.form (by omega); rw [hl1] at ev; subst ev; obtain ⟨⟨x0, c0⟩, ⟨x1, c1⟩, f0, f1⟩ := m3.copy.at_ hl1 (Nat.lt_succ_self j); have HS := Lib.hid (show CopyO w (S ++ [some d]) (.slice (some ⟨g, 0, none⟩) (j + 1) cg) ((w3.setCell ⟨g, j * 2, none⟩ (.bool true)).setCell ⟨g, j * 2 + 1, none⟩ (.slice A2 m c2)) by (rw [← HSET.out]; exact (hdl ▸ CopyR.set (some d) A2 c2 m3 hl1 (Nat.lt_succ_self j) hg (by show Bs w A2 d.length c2 d; rw [hdl]; exact HD.out)))); obtain ⟨A3, c3, e3, hr3⟩ := CopyO.rl HS.out; injection e3 with e3 e4 e5; subst e3 e5; have HR3 := Lib.hid hr3; rw [hls] at hr3; have HT := Lib.hid (size_ref _ _ cg _ _ hr3 (by omega) HT0.out); rw [HTT.out] at HT; have HB2 := Lib.hid (show Below w.heap.size w ((w3.setCell ⟨g, j * 2, none⟩ (.bool true)).setCell ⟨g, j * 2 + 1, none⟩ (.slice A2 m c2)) by obtain ⟨_, _, h1, _⟩ := HS.out; exact h1.2); clear m3 hr3 e4)) | (go_at_call 58; (with_reducible refine HT.out.mono ?_); rintro e w3 ⟨rfl, hb3⟩; have HB3 := Lib.hid hb3; clear hb3)
        go_ret3
        refine ⟨⟨some ⟨g, 0, none⟩, cg, by rw [hls]; rfl, ?_⟩, on HB2.out HB3.out⟩
        exact HR3.out.below HB3.out
end Go.Proofs.Ythcilmlaoddckaa.Pg
/- A page laid slot by slot, as the document lays it; the document's Put put together. -/
namespace Go.Proofs.Ythcilmlaoddckaa.Pg
open Go.RowKit Go.Proofs.Ythcilmlaoddckaa.Mem Go.Proofs.Ythcilmlaoddckaa.Right
set_option linter.unusedVariables false

theorem put_ref (A A2 : Option Addr) (n c m c2 : Nat) (S : List Sl) (d : List UInt8) (w : World) (h : RL w A n c S) (hS : Ok S) (hd : Bs w A2 m c2 d) (x : Option (List Sl)) (k y : Int) (hx : putV S d = (x, k, y)) :
    Calls Try.prog 38 #[.slice A n c, .slice A2 m c2] w (RefP w x k y) := by
  have hm : d.length = m := hd.2.1
  have hfit := hS.fit.room
  have hl := h.len
  have hle := freeN_le S
  unfold putV at hx
  by_cases h5 : 255 < d.length
  · rw [if_pos h5] at hx
    cases hx
    exact put_ref_long A A2 n c m c2 w (by omega)
  · rw [if_neg h5] at hx
    have ho := size_over (d := d) hS.fit
    have hts := tot_small hS.fit (d := d) (by omega)
    by_cases hk : freeN S = S.length
    · have eu : upd S (freeN S) d = S ++ [some d] := by unfold upd; rw [if_neg (by omega)]
      have ec : (freeN S : Int) = (n : Int) := by omega
      rw [eu] at ho hx hts
      rw [ec] at hx
      have hll : (S ++ [some d]).length = n + 1 := by rw [List.length_append, hl]; rfl
      rw [hll] at ho
      have hgo := fun x hx => put_ref_end A A2 n c m c2 S d w h (by omega) (by omega) hd (by omega) hts x hx
      by_cases hr : roomN S < needN S d.length
      · rw [if_pos hr] at hx
        cases hx
        exact hgo true (decide_eq_true (ho.2 hr))
      · rw [if_neg hr] at hx
        cases hx
        exact hgo false (decide_eq_false fun q => hr (ho.1 q))
    · have hlt : freeN S < S.length := by omega
      have eu : upd S (freeN S) d = S.set (freeN S) (some d) := by unfold upd; rw [if_pos hlt]
      rw [eu] at ho hx hts
      rw [List.length_set, hl] at ho
      have hgo := fun x hx => put_ref_mid A A2 n c (freeN S) m c2 S d w h (by omega) (by omega) hd (by omega) rfl hts x hx
      by_cases hr : roomN S < needN S d.length
      · rw [if_pos hr] at hx
        cases hx
        exact hgo true (decide_eq_true (ho.2 hr))
      · rw [if_neg hr] at hx
        cases hx
        exact hgo false (decide_eq_false fun q => hr (ho.1 q))
theorem splice_one {L : List UInt8} {b : Nat} (x : UInt8) (h : b < L.length) : splice L b [x] = L.set b x := by
  rw [List.set_eq_take_append_cons_drop, if_pos h]
  simp [splice]
theorem splice_more {M d : List UInt8} {f j : Nat} {x : UInt8} (hx : d[j]? = some x) (hf : f + d.length ≤ M.length) : (splice M f (d.take j)).set (f + j) x = splice M f (d.take (j + 1)) := by
  obtain ⟨hj, _⟩ := List.getElem?_eq_some_iff.1 hx
  have hl : (d.take j).length = j := by rw [List.length_take]; omega
  have h1 : (splice M f (d.take j)).length = M.length := splice_len (by omega)
  rw [← splice_one x (by omega), splice_then M (d.take j) [x] (by omega) (by rw [hl]; simp; omega), List.take_add_one, hx]
  rfl
/-- The page, a slot with data further. -/
theorem pgn_some (n : Nat) (T : List Sl) (d : List UInt8) (h : 2 + 2 * (T.length + 1) + (tot T + d.length) ≤ 512) :
    splice (put2 (pgn n T) (2 * (T.length + 1)) (d.length + 1)) (512 - tot T - d.length) d = pgn n (T ++ [some d]) := by
  have e1 : pgn n T = (two n ++ marks T) ++ (two 0 ++ (zs (510 - 2 * (T.length + 1) - (tot T + d.length)) ++ (zs d.length ++ tl T))) := by
    have e2 : zs (510 - 2 * T.length - tot T) = two 0 ++ (zs (510 - 2 * (T.length + 1) - (tot T + d.length)) ++ zs d.length) := by
      rw [show two 0 = zs 2 by decide, zs_app, zs_app]
      congr 1; omega
    unfold pgn
    rw [e2]
    simp only [List.append_assoc]
  have hk : (two n ++ marks T).length = 2 * (T.length + 1) := by rw [List.length_append, len_two, len_marks]; omega
  rw [e1, put2_mid _ _ _ _ hk]
  have e3 : (two n ++ marks T) ++ (two (d.length + 1) ++ (zs (510 - 2 * (T.length + 1) - (tot T + d.length)) ++ (zs d.length ++ tl T))) = ((two n ++ marks T) ++ (two (d.length + 1) ++ zs (510 - 2 * (T.length + 1) - (tot T + d.length)))) ++ (zs d.length ++ tl T) := by simp only [List.append_assoc]
  rw [e3, splice_mid _ _ _ _ (by simp only [List.length_append, len_two, len_marks, len_zs]; omega) (by rw [len_zs])]
  have e4 : tl (T ++ [some d]) = d ++ tl T := by rw [tl_app]; rfl
  have e5 : marks (T ++ [some d]) = marks T ++ two (d.length + 1) := by rw [marks_app]; show _ ++ (two (mk (some d)) ++ []) = _; rw [List.append_nil]; rfl
  have e6 : tot (T ++ [some d]) = tot T + d.length := by rw [tot_app]; rfl
  unfold pgn
  rw [e4, e5, e6, List.length_append]
  show _ = two n ++ (marks T ++ two (d.length + 1) ++ (zs (510 - 2 * (T.length + 1) - (tot T + d.length)) ++ (d ++ tl T)))
  simp only [List.append_assoc]
theorem take_sl {S : List Sl} {k : Nat} (h : k < S.length) : S.take (k + 1) = S.take k ++ [sl S k] := by
  have hs : S[k]? = some S[k] := List.getElem?_eq_getElem h
  rw [List.take_add_one, hs]
  unfold sl; rw [hs]; rfl
end Go.Proofs.Ythcilmlaoddckaa.Pg
/- The bytes that the document lays of slots: the page. -/
namespace Go.Proofs.Ythcilmlaoddckaa.Pg
open Go.RowKit Go.Proofs.Ythcilmlaoddckaa.Mem Go.Proofs.Ythcilmlaoddckaa.Right
set_option linter.unusedVariables false

theorem hi_eq {v : Nat} (h : v < 65536) : (v : Int) / 256 = ((hi v).toNat : Int) := by unfold hi; rw [UInt8.toNat_ofNat']; omega
theorem lo_eq (v : Nat) : (v : Int) % 256 = ((lo v).toNat : Int) := by unfold lo; rw [UInt8.toNat_ofNat']; omega
set_option maxHeartbeats 2000000 in
theorem bytes_ref (A : Option Addr) (n c : Nat) (S : List Sl) (w : World) (h : RL w A n c S) (hS : Fit S) :
    Calls Try.prog 45 #[.slice A n c] w fun e w' => ∃ g, w.heap.size ≤ g ∧ e = .returned (.slice (some ⟨g, 0, none⟩) 512 512) ∧ Blk w' g (pg S) [] ∧ Below w.heap.size w w' := by
  obtain ⟨Z, hZ, hmk0⟩ : ∃ Z : Array Value, Z = (List.replicate 512 (Value.int .u8 0)).toArray ∧ ∀ wx : World, (Instr.makeSlice 32 (.int .i64 512) (.int .i64 512)).run Try.prog wx = .ok (.slice (some ⟨wx.heap.size, 0, none⟩) 512 512) (wx.alloc (.cells Z 5)) := ⟨_, rfl, fun wx => by kernel_rfl⟩
  have hB0 : Blk (w.alloc (.cells Z 5)) w.heap.size (pgn 0 []) [] := by
    show (w.alloc _).heap[w.heap.size]? = _
    rw [World.alloc_heap_new, hZ, List.append_nil, show pgn 0 [] = zs 512 from pg_nil]
    have e : bys (zs 512) = List.replicate 512 (Value.int .u8 0) := by
      unfold bys zs
      rw [List.map_replicate]; rfl
    rw [e]
  have hb0 : Below w.heap.size w (w.alloc (.cells Z 5)) := al (Below.refl _ _) _
  have hmk := hmk0 w
  clear hZ hmk0
  obtain ⟨W, hW⟩ : ∃ W, w.alloc (.cells Z 5) = W := ⟨_, rfl⟩
  obtain ⟨g, hg⟩ : ∃ g, w.heap.size = g := ⟨_, rfl⟩
  rw [hW, hg] at hmk hB0
  rw [hW] at hb0
  have hge : w.heap.size ≤ g := by omega
  have hl := h.len
  have hroom := hS.room
  have HG := Lib.hid hg
  have HH := Lib.hid h
  have HW := Lib.hid hb0
  have H0 := Lib.hid hB0
  obtain ⟨x0, x1⟩ := pgn_count 0 []
  have c1 := hB0.at_cell x0
  have c2 := hB0.at_cell x1
  have f1 := hB0.open_ 0
  have f2 := hB0.open_ 1
  have hn : n < 65536 := by omega
  have hn5 : n ≤ 255 := by omega
  clear h hB0 x0 x1 hW hg hb0
  go_enter Try.func45, Try.ntmps45
  go_wp2
  have HB1 := Lib.hid (show Blk ((W.setCell ⟨g, 0, none⟩ (.int .u8 ((n : Int) / 256))).setCell ⟨g, 1, none⟩ (.int .u8 ((n : Int) % 256))) g (pgn n []) [] by
    have := (H0.out.set (k := 0) (by decide +kernel) (hi n) (hi_eq hn)).set (k := 1) (by rw [List.length_set]; decide +kernel) (lo n) (lo_eq n)
    exact this)
  have HW1 := Lib.hid (show Below w.heap.size w ((W.setCell ⟨g, 0, none⟩ (.int .u8 ((n : Int) / 256))).setCell ⟨g, 1, none⟩ (.int .u8 ((n : Int) % 256))) from (HW.out.setCell (p := ⟨g, 0, none⟩) hge _).setCell (p := ⟨g, 1, none⟩) hge _)
  clear c1 c2 f1 f2
  go_loopw [4, 5] (fun to i wr => ∃ k T : Nat, k ≤ n ∧ T ≤ 512 ∧ to = .int .i64 T ∧ i = .int .i64 k ∧ Hid (T = 512 - tot (S.take k)) ∧ Hid (Blk wr g (pgn n (S.take k)) []) ∧ Hid (Below w.heap.size w wr)) (fun _ i _ => n - (intOf i).toNat)
  case atStart => exact ⟨0, 512, Nat.zero_le _, Nat.le_refl _, rfl, rfl, Lib.hid rfl, HB1, HW1⟩
  case round =>
    obtain ⟨k, T, hk, hT, rfl, rfl, HT, HBk, HWk⟩ := hrel
    clear HB1 HW1 hmk
    by_cases hlt : k < n
    · obtain ⟨b, o, A', c', rfl, hb, cw0, cw1, hbs⟩ := HH.out.get hlt
      have c0 := (HWk.out.cell (p := ⟨b, o + k * 2, none⟩) hb).trans cw0
      have hlt' : (k : Int) < (n : Int) := by omega
      have htk := tot_take S (k + 1)
      have ets := take_sl (S := S) (k := k) (by omega)
      have etk : (S.take k).length = k := by rw [List.length_take]; omega
      rw [ets, tot_app] at htk
      have htk2 : tot (S.take k) + ln (sl S k) ≤ tot S := htk
      cases hs : sl S k with
      | none =>
        have HT2 := Lib.hid (show T = 512 - tot (S.take (k + 1)) by rw [ets, tot_app, hs, HT.out]; rfl)
        have HB2 := Lib.hid (show Blk _ g (pgn n (S.take (k + 1))) [] by rw [ets, hs, pgn_more n _ (by rw [etk]; omega)]; exact HBk.out)
        rw [hs] at c0
        have c0' : wr.cell? ⟨b, o + k * 2, none⟩ = some (.bool false) := c0
        clear c0 cw0 cw1 hbs htk ets etk htk2 hs
        go_wp2
        go_roundw
        case rel => exact ⟨k + 1, T, by omega, hT, rfl, by go_num, HT2, HB2, HWk⟩
        case measure => simp [intOf]; omega
      | some d =>
        rw [hs] at c0 cw1 hbs htk2
        have hd5 : d.length ≤ 255 := by
          obtain ⟨h', e'⟩ : ∃ h' : k < S.length, S[k] = some d := by
            have : k < S.length := by omega
            refine ⟨this, ?_⟩
            have e2 := sl_some hs
            rw [List.getElem?_eq_getElem this] at e2
            injection e2
          exact hS.each _ (e' ▸ List.getElem_mem h')
        obtain ⟨m, hm⟩ : ∃ m, d.length = m := ⟨_, rfl⟩
        obtain ⟨P, hP⟩ : ∃ P, 2 * (k + 1) = P := ⟨_, rfl⟩
        have hlen : (pgn n (S.take k)).length = 512 := len_pgn (by rw [etk]; omega)
        have hdm : ln (some d) = m := hm
        have hP5 : P + 1 < 512 := by omega
        have hP2 : 2 + 2 * (k : Int) = (P : Int) := by omega
        have hP3 : 3 + 2 * (k : Int) = (P : Int) + 1 := by omega
        have c1 := (HWk.out.cell (p := ⟨b, o + k * 2 + 1, none⟩) hb).trans cw1
        rw [hdm] at c1 cw1 hbs htk2
        have c0' : wr.cell? ⟨b, o + k * 2, none⟩ = some (.bool true) := c0
        obtain ⟨y1, hy1⟩ : ∃ y, (pgn n (S.take k))[P]? = some y := ⟨_, List.getElem?_eq_getElem (by omega)⟩
        obtain ⟨y2, hy2⟩ : ∃ y, (pgn n (S.take k))[P + 1]? = some y := ⟨_, List.getElem?_eq_getElem (by omega)⟩
        have g1 := HBk.out.at_cell hy1
        have g2 := HBk.out.at_cell hy2
        have f1 := HBk.out.open_ P
        have f2 := HBk.out.open_ (P + 1)
        have hm6 : m + 1 < 65536 := by omega
        have hm5 : m ≤ 255 := by omega
        have hbg : b ≠ g := by omega
        have HT0 := Lib.hid (show T = 512 - tot (S.take k) from HT.out)
        obtain ⟨F, hF⟩ : ∃ F, F + m = T := ⟨T - m, by have := HT.out; omega⟩
        have hF2 : (T : Int) - (m : Int) = (F : Int) := by omega
        have HF := Lib.hid hF
        have HET := Lib.hid ets
        have HEK := Lib.hid etk
        have HBS := Lib.hid hbs
        have HM := Lib.hid hm
        have HPP := Lib.hid hP
        have HLN := Lib.hid hlen
        have HS := Lib.hid hs
        have HC1 := Lib.hid cw1
        clear c0 cw0 cw1 hbs ets etk hs hF hP hlen hdm htk hm hy1 hy2
        go_wp2
        have HB2 := Lib.hid (show Blk ((wr.setCell ⟨g, P, none⟩ (.int .u8 (((m : Int) + 1) / 256))).setCell ⟨g, P + 1, none⟩ (.int .u8 (((m : Int) + 1) % 256))) g (put2 (pgn n (S.take k)) P (m + 1)) [] from
          (HBk.out.set (k := P) (by rw [HLN.out]; omega) (hi (m + 1)) (by have := hi_eq hm6; rwa [Int.natCast_add] at this)).set (k := P + 1) (by rw [List.length_set, HLN.out]; omega) (lo (m + 1)) (by have := lo_eq (m + 1); rwa [Int.natCast_add] at this))
        have HW2 := Lib.hid (show Below w.heap.size w ((wr.setCell ⟨g, P, none⟩ (.int .u8 (((m : Int) + 1) / 256))).setCell ⟨g, P + 1, none⟩ (.int .u8 (((m : Int) + 1) % 256))) from (HWk.out.setCell (p := ⟨g, P, none⟩) hge _).setCell (p := ⟨g, P + 1, none⟩) hge _)
        obtain ⟨M, hM⟩ : ∃ M, put2 (pgn n (S.take k)) P (m + 1) = M := ⟨_, rfl⟩
        rw [hM] at HB2
        have HML := Lib.hid (show M.length = 512 by rw [← hM, put2_len]; exact HLN.out)
        have HMM := Lib.hid hM
        clear hM g1 g2 f1 f2 c1 c0' hP2 hP3
        go_loopw [7] (fun q wx => ∃ j : Nat, j ≤ m ∧ q = .int .i64 j ∧ Hid (Blk wx g (splice M F (d.take j)) []) ∧ Hid (Below w.heap.size w wx)) (fun q _ => m - (intOf q).toNat)
        case atStart => exact ⟨0, Nat.zero_le _, rfl, Lib.hid (by rw [List.take_zero, splice_nil]; exact HB2.out), HW2⟩
        case round =>
          obtain ⟨j, hj, rfl, HBj, HWj⟩ := hrel
          clear HB2 HW2
          by_cases hjl : j < m
          · obtain ⟨b', o', x, rfl, hb', hx, hcell⟩ := (HBS.out.1.below HWj.out (Nat.le_refl _)).byte (k := j) (by rw [show (dat (some d)) = d from rfl, HM.out]; exact hjl)
            have c1 := (HWj.out.cell (p := ⟨b, o + k * 2 + 1, none⟩) hb).trans HC1.out
            have hsl : (splice M F (d.take j)).length = 512 := by
              rw [splice_len (by rw [List.length_take, HML.out, HM.out]; have := HF.out; omega)]; exact HML.out
            obtain ⟨y1, hy1⟩ : ∃ y, (splice M F (d.take j))[F + j]? = some y := ⟨_, List.getElem?_eq_getElem (by rw [hsl]; have := HF.out; omega)⟩
            have g1 := HBj.out.at_cell hy1
            have f1 := HBj.out.open_ (F + j)
            have HX : Hid (d[j]? = some x) := Lib.hid hx
            have HSL := Lib.hid hsl
            have hjm : (j : Int) < (m : Int) := by omega
            have hFj : F + j < 512 := by have := HF.out; omega
            clear hx hsl hy1
            go_wp2
            go_roundw
            case rel =>
              refine ⟨j + 1, by omega, by go_num, Lib.hid ?_, Lib.hid (HWj.out.setCell (p := ⟨g, F + j, none⟩) hge _)⟩
              rw [← splice_more HX.out (by rw [HM.out, HML.out]; have := HF.out; omega)]
              exact HBj.out.set (k := F + j) (by rw [HSL.out]; exact hFj) x rfl
            case measure => simp [intOf]; omega
          · obtain rfl : j = m := by omega
            have hdl : d.take d.length = d := List.take_length
            have HT2 := Lib.hid (show F = 512 - tot (S.take (k + 1)) by rw [HET.out, tot_app, HS.out]; show F = 512 - (_ + (d.length + 0)); have := HF.out; have := HT0.out; have := HM.out; omega)
            have HB3 := Lib.hid (show Blk _ g (pgn n (S.take (k + 1))) [] by
              have e := pgn_some n (S.take k) d (by rw [HEK.out, HM.out]; omega)
              rw [HEK.out, HPP.out, HM.out, HMM.out] at e
              have e2 : 512 - tot (S.take k) - j = F := by have := HF.out; have := HT0.out; omega
              rw [e2] at e
              rw [HET.out, HS.out, ← e]
              have := HBj.out
              rw [← HM.out, hdl] at this
              exact this)
            clear hdl hjl
            go_wp2
            go_roundw
            case rel => exact ⟨k + 1, F, by omega, by have := HF.out; omega, by go_num, by go_num, HT2, HB3, HWj⟩
            case measure => simp [intOf]; omega
    · obtain rfl : k = n := by omega
      go_wp2
      go_ret
      refine ⟨g, hge, rfl, ?_, HWk.out⟩
      have := HBk.out
      rw [List.take_of_length_le (by omega)] at this
      rw [← hl] at this
      exact this
theorem blk_bs {w : World} {g n : Nat} {L : List UInt8} (h : Blk w g L []) (hn : L.length = n) (h64 : n ≤ 9223372036854775807) : Bs w (some ⟨g, 0, none⟩) n n L := by
  refine ⟨fun k u hu => ⟨g, 0, rfl, blk_lt (show w.heap[g]? = _ from h), ?_⟩, hn, Nat.le_refl _, h64⟩
  rw [Nat.zero_add, cell_of_row w g k _ _ _ h.heap, List.getElem?_toArray, List.append_nil]
  exact hu
theorem bytes_got (A : Option Addr) (n c : Nat) (S : List Sl) (w : World) (h : RL w A n c S) (hS : Fit S) :
    Calls Try.prog 45 #[.slice A n c] w fun e w' => ∃ g, e = .returned (.slice (some ⟨g, 0, none⟩) 512 512) ∧ Bs w' (some ⟨g, 0, none⟩) 512 512 (pg S) ∧ Below w.heap.size w w' :=
  (bytes_ref A n c S w h hS).mono fun e w' ⟨g, _, a, b, c⟩ => ⟨g, a, blk_bs b hS.len (by decide), c⟩
end Go.Proofs.Ythcilmlaoddckaa.Pg
