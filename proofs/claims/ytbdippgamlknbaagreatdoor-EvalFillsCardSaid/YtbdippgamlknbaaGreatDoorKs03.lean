/- And, Or, In and coalesce as the program makes them, of values and errors that come one beh Slices as lists: a slice that came in, or that the call made, whose cells read as a given  Arguments as they come in, opened: slices of numbers, of bytes; the values of the statemen Right values, in plain words. Slices of values as lists: each value lies in three cells; what came in, and what the call -/
import Derived.Test.YtbdippgamlknbaaGreatDoorKs02
import Derived.Test.YtbdippgamlknbaaGreatDoorKs01
import Derived.Below
import Derived.Laws.OwnMore
import Derived.WalkKit
import Derived.ProofKit
import Derived.OpenShut
import Derived.ShutString
import Derived.ChangeOld
import Derived.Lib.SmallJoins
import GoSem.Op.String
import Derived.Deep.Slices
import Derived.Deep.Fields
import Derived.Maps.AppendAt
import Derived.OwnWalk
import Derived.Laws.AppendOwnNone
import Derived.Test.YtbdippgamlknbaaGreatDoorProg
namespace Go.Proofs.YtbdippgamlknbaaGreatDoor.Ev
open Go.Proofs.YtbdippgamlknbaaGreatDoor.Ep
set_option linter.unusedVariables false
/-- What And (2) and Or (1) begin with, end with, and make of two truths. -/
def jst (o : Int) : Int := if o = 1 then 0 else 1
def jen (o : Int) : Int := if o = 1 then 1 else 0
def tog (o a t : Int) : Int := if o = 1 then Truth.orV [a, t] else Truth.andV [a, t]
/-- One behind the other, each by a rule. -/
def jn (o : Int) (rule : Vv → Int × Int) : Int → List (Vv × Int) → Vv × Int
  | a, [] => (trV a, 0)
  | a, x :: r => if x.2 ≠ 0 then (nul, x.2) else if (rule x.1).2 ≠ 0 then (nul, (rule x.1).2) else if tog o a (rule x.1).1 = jen o then (trV (jen o), 0) else jn o rule (tog o a (rule x.1).1) r
/-- The first that is there, or an error. -/
def coS : List (Vv × Int) → Vv × Int
  | [] => (nul, 0)
  | x :: r => if x.2 ≠ 0 ∨ x.1.k ≠ 0 then x else coS r
def t3 (t : Int) : Prop := t = 0 ∨ t = 1 ∨ t = 2
theorem of_3 (v : Vv) : t3 (ofV v).1 := by
  unfold ofV t3
  split
  · exact .inr (.inr rfl)
  split
  · exact .inl rfl
  split
  · exact .inl rfl
  · exact .inr (.inl rfl)
theorem cmp_3 {ord : Int → Vv → Vv → Bool} (o : Int) (a b : Vv) : t3 (cmpV ord o a b).1 := by
  unfold cmpV t3
  split
  · exact .inl rfl
  split
  · exact .inr (.inr rfl)
  split
  · exact .inl rfl
  split
  · exact .inr (.inl rfl)
  · exact .inl rfl
theorem tog_jst {o t : Int} (h : t3 t) : tog o (jst o) t = t := by
  unfold tog jst
  rcases h with rfl | rfl | rfl <;> by_cases ho : o = 1
  all_goals first | (rw [if_pos ho, if_pos ho]; decide) | (rw [if_neg ho, if_neg ho]; decide)
theorem tog_and {t u : Int} (ht : t3 t) (hu : t3 u) : tog 2 t u = andT t u := by
  rcases ht with rfl | rfl | rfl <;> rcases hu with rfl | rfl | rfl <;> decide
theorem tog_or {t u : Int} (ht : t3 t) (hu : t3 u) : tog 1 t u = orT t u := by
  rcases ht with rfl | rfl | rfl <;> rcases hu with rfl | rfl | rfl <;> decide
/-- And, and Or, of two. -/
theorem jn_two {ord : Int → Vv → Vv → Bool} {o : Int} {nm : List UInt8} {a b il cl : Vv × Int} (ho : o = 1 ∨ o = 2) : jn o ofV (jst o) [a, b] = comb ord 5 o nm a b il cl := by
  by_cases ha : a.2 ≠ 0
  · rw [jn, if_pos ha, comb_err ha]
  rw [comb_and ha (by omega), jn, if_neg ha]
  by_cases h1 : (ofV a.1).2 ≠ 0
  · rw [if_pos h1, if_pos h1]
  rw [if_neg h1, if_neg h1, tog_jst (of_3 _)]
  by_cases h2 : (ofV a.1).1 = jen o
  · rw [if_pos h2, if_pos (by unfold jen at h2; rcases ho with rfl | rfl <;> simp at h2 <;> omega), h2]
  rw [if_neg h2, if_neg (by unfold jen at h2; rcases ho with rfl | rfl <;> simp at h2 <;> omega), jn]
  by_cases hb : b.2 ≠ 0
  · rw [if_pos hb, if_pos hb]
  rw [if_neg hb, if_neg hb]
  by_cases h3 : (ofV b.1).2 ≠ 0
  · rw [if_pos h3, if_pos h3]
  rw [if_neg h3, if_neg h3, jn]
  have he : tog o (ofV a.1).1 (ofV b.1).1 = if o = 2 then andT (ofV a.1).1 (ofV b.1).1 else orT (ofV a.1).1 (ofV b.1).1 := by
    rcases ho with rfl | rfl
    · rw [if_neg (by decide), tog_or (of_3 _) (of_3 _)]
    · rw [if_pos rfl, tog_and (of_3 _) (of_3 _)]
  rw [← he]
  split
  · rename_i h; rw [h]
  · rfl
section
variable {ord : Int → Vv → Vv → Bool} {row prs : List Vv}
/-- In. -/
theorem jn_in {a : Vv} : ∀ {l : List Ex} {out : Int}, (out = 0 ∨ out = 2) → jn 1 (cmpV ord 3 a) out (l.map (come ord row prs)) = inL ord row prs a out l
  | [], out, _ => by rw [List.map_nil, jn, inL]
  | b :: r, out, h => by
    rw [List.map_cons, jn, inL]
    by_cases hb : (come ord row prs b).2 ≠ 0
    · rw [if_pos hb, if_pos hb]
    rw [if_neg hb, if_neg hb]
    by_cases h1 : (cmpV ord 3 a (come ord row prs b).1).2 ≠ 0
    · rw [if_pos h1, if_pos h1]
    rw [if_neg h1, if_neg h1]
    have ht := cmp_3 (ord := ord) 3 a (come ord row prs b).1
    generalize (cmpV ord 3 a (come ord row prs b).1).1 = t at ht ⊢
    have he : tog 1 out t = if t = 1 then 1 else if t = 2 then 2 else out := by
      rcases h with rfl | rfl <;> rcases ht with rfl | rfl | rfl <;> decide
    rw [he, show jen 1 = 1 from rfl]
    by_cases c1 : t = 1
    · rw [if_pos c1, if_pos rfl, if_pos c1]
    rw [if_neg c1, if_neg c1, if_neg (by split <;> omega), jn_in (by split <;> omega)]
/-- An error has no value. -/
def Nn (r : Vv × Int) : Prop := r.2 ≠ 0 → r.1 = nul
theorem Nn.ite {c : Prop} [Decidable c] {x y : Vv × Int} (h1 : Nn x) (h2 : Nn y) : Nn (if c then x else y) := by split <;> assumption
theorem Nn.nul {f : Int} : Nn (Ev.nul, f) := fun _ => rfl
theorem Nn.ok {v : Vv} : Nn (v, 0) := fun h => absurd rfl h
theorem Nn.num {n e : Int} : Nn (numV n e) := by unfold numV; split; exact Nn.ok; exact Nn.nul
theorem Nn.valAt {l : List Vv} {i : Int} : Nn (valAt l i) := by unfold Ev.valAt; split; exact Nn.nul; exact Nn.ok
theorem Nn.one {o : Int} {a : Vv} : Nn (one o a) := by
  unfold Ev.one
  split
  · split <;> exact Nn.ok
  split
  · exact Nn.nul
  split
  · split
    · exact Nn.nul
    · exact Nn.ok
  split
  · exact Nn.nul
  · exact Nn.num
theorem Nn.call {nm : List UInt8} {a : Vv} : Nn (callV nm a) := by
  unfold callV
  split
  · exact Nn.nul
  split
  · exact Nn.ok
  split
  · exact Nn.num
  · exact Nn.nul
theorem Nn.math {o : Int} {a b : Vv} : Nn (mathV o a b) := by
  unfold mathV
  refine Nn.ite Nn.nul (Nn.ite Nn.nul (Nn.ite (Nn.ite Nn.nul Nn.ok) ?_))
  unfold mathN
  exact Nn.ite Nn.num (Nn.ite Nn.num (Nn.ite Nn.num (Nn.ite Nn.num Nn.num)))
theorem Nn.inn {a : Vv} : ∀ {l : List Ex} {out : Int}, Nn (inL ord row prs a out l)
  | [], out => by rw [inL]; exact Nn.ok
  | b :: r, out => by
    rw [inL]
    split
    · exact Nn.nul
    split
    · exact Nn.nul
    split
    · exact Nn.ok
    · exact Nn.inn
theorem Nn.co : ∀ {l : List Ex} {a : Vv}, Nn (coL ord row prs a l)
  | [], a => by
    rw [coL]
    split
    · exact Nn.nul
    · exact Nn.ok
  | b :: r, a => by
    rw [coL]
    split
    · exact Nn.ok
    split
    · exact Nn.nul
    · exact Nn.co
theorem Nn.comb {k o : Int} {nm : List UInt8} {a b il cl : Vv × Int} (h1 : Nn il) (h2 : Nn cl) : Nn (comb ord k o nm a b il cl) := by
  unfold Ev.comb
  exact Nn.ite Nn.nul (Nn.ite Nn.one (Nn.ite (Nn.ite Nn.nul h1) (Nn.ite h2 (Nn.ite Nn.call (Nn.ite (Nn.ite Nn.nul (Nn.ite Nn.ok (Nn.ite Nn.nul (Nn.ite Nn.nul Nn.ok)))) (Nn.ite Nn.nul (Nn.ite Nn.math (Nn.ite Nn.nul Nn.ok))))))))
theorem come_nn : ∀ (e : Ex), Nn (come ord row prs e)
  | .mk k o vk vn vs nm kids => by
    rw [come]
    split
    · exact Nn.ok
    split
    · exact Nn.nul
    split
    · exact Nn.valAt
    split
    · exact Nn.valAt
    match kids with
    | [] => rw [comeK]; exact Nn.nul
    | a :: r => rw [comeK]; exact Nn.comb Nn.inn Nn.co
/-- coalesce. -/
theorem co_is : ∀ {l : List Ex} {a : Vv}, coL ord row prs a l = if a.k ≠ 0 then (a, 0) else coS (l.map (come ord row prs))
  | [], a => by
    rw [coL, List.map_nil, coS]
    by_cases h : a.k = 0
    · rw [if_pos h, if_neg (by omega)]
    · rw [if_neg h, if_pos h]
  | b :: r, a => by
    rw [coL, List.map_cons, coS]
    by_cases h : a.k ≠ 0
    · rw [if_pos h, if_pos h]
    rw [if_neg h, if_neg h, co_is]
    have hn := come_nn (ord := ord) (row := row) (prs := prs) b
    generalize come ord row prs b = x at hn ⊢
    obtain ⟨v, f⟩ := x
    by_cases hf : f ≠ 0
    · rw [if_pos hf, if_pos (.inl hf)]
      have := hn hf
      simp only at this
      rw [this]
    rw [if_neg hf]
    have hf : f = 0 := by simpa using hf
    subst hf
    by_cases hv : v.k ≠ 0
    · rw [if_pos hv, if_pos (.inr hv)]
    · rw [if_neg hv, if_neg (by rintro (g | g); exact g rfl; exact hv g)]
theorem coS_is {a : Ex} {r : List Ex} {o : Int} {b il : Vv × Int} : coS ((a :: r).map (come ord row prs)) = comb ord 7 o nCoal (come ord row prs a) b il (coL ord row prs (come ord row prs a).1 r) := by
  rw [List.map_cons, coS]
  have hn := come_nn (ord := ord) (row := row) (prs := prs) a
  generalize come ord row prs a = x at hn ⊢
  obtain ⟨v, f⟩ := x
  by_cases hf : f ≠ 0
  · rw [if_pos (.inl hf), comb_err hf]
    have := hn hf
    simp only at this
    rw [this]
  have hf : f = 0 := by simpa using hf
  subst hf
  rw [comb_co (by simp), co_is]
  by_cases hv : v.k ≠ 0
  · rw [if_pos (.inr hv), if_pos hv]
  · rw [if_neg hv, if_neg (by rintro (g | g); exact g rfl; exact hv g)]
/-- A value as a machine has it, its text not long. -/
def Vb (v : Vv) : Prop := (-9223372036854775808 ≤ v.n ∧ v.n ≤ 9223372036854775807) ∧ v.s.length ≤ 1000
theorem Vb.ite {c : Prop} [Decidable c] {x y : Vv × Int} (h1 : Vb x.1) (h2 : Vb y.1) : Vb (if c then x else y).1 := by split <;> assumption
theorem Vb.nul : Vb Ev.nul := ⟨⟨by decide, by decide⟩, by decide⟩
theorem Vb.tr {t : Int} (k : Int) (h : -5 ≤ t ∧ t ≤ 5) : Vb ⟨k, t, []⟩ := ⟨⟨by show _ ≤ t; omega, by show t ≤ _; omega⟩, by simp⟩
theorem Vb.trV (t : Int) : Vb (trV t) := by
  unfold Ev.trV
  split
  · exact Vb.tr _ (by omega)
  · exact Vb.nul
theorem rv_in (n : Int) : -9223372036854775808 ≤ Num.rv n ∧ Num.rv n ≤ 9223372036854775807 := by
  unfold Num.rv
  split
  · rename_i h; exact (Num.fits_iff n).1 h
  · exact ⟨by decide, by decide⟩
theorem tdiv_in {a b : Int} (ha : -9223372036854775808 ≤ a ∧ a ≤ 9223372036854775807) (hb : Num.bad a b ≠ true) : -9223372036854775808 ≤ a.tdiv b ∧ a.tdiv b ≤ 9223372036854775807 := by
  rw [ne_eq, Num.bad_iff] at hb
  have h1 : (a.tdiv b).natAbs = a.natAbs / b.natAbs := Int.natAbs_tdiv a b
  have h2 : a.natAbs / b.natAbs ≤ a.natAbs := Nat.div_le_self _ _
  by_cases h : a = -9223372036854775808
  · subst h
    have hb1 : b.natAbs ≠ 0 := by omega
    by_cases hb2 : b.natAbs = 1
    · have : b = 1 := by omega
      subst this
      rw [Int.tdiv_one]; omega
    · have : (9223372036854775808 : Nat) / b.natAbs ≤ 9223372036854775808 / 2 := Nat.div_le_div_left (by omega) (by decide)
      have h3 : ((-9223372036854775808 : Int)).natAbs = 9223372036854775808 := rfl
      rw [h3] at h1
      omega
  · omega
theorem tmod_in {a b : Int} (ha : -9223372036854775808 ≤ a ∧ a ≤ 9223372036854775807) : -9223372036854775808 ≤ a.tmod b ∧ a.tmod b ≤ 9223372036854775807 := by
  have h1 : (a.tmod b).natAbs = a.natAbs % b.natAbs := Int.natAbs_tmod a b
  have h2 : a.natAbs % b.natAbs ≤ a.natAbs := Nat.mod_le _ _
  rcases Int.lt_or_le a 0 with g | g
  · have h3 : 0 ≤ (-a).tmod b := Int.tmod_nonneg b (by omega)
    rw [Int.neg_tmod] at h3
    omega
  · have h3 := Int.tmod_nonneg b g
    omega
theorem ov_in {a : Int} (b : Int) (ha : -9223372036854775808 ≤ a ∧ a ≤ 9223372036854775807) : -9223372036854775808 ≤ Num.ov a b ∧ Num.ov a b ≤ 9223372036854775807 := by
  unfold Num.ov
  split
  · exact ⟨by decide, by decide⟩
  · rename_i h; exact tdiv_in ha h
theorem rs_in {a : Int} (b : Int) (ha : -9223372036854775808 ≤ a ∧ a ≤ 9223372036854775807) : -9223372036854775808 ≤ Num.rs a b ∧ Num.rs a b ≤ 9223372036854775807 := by
  unfold Num.rs
  split
  · exact ⟨by decide, by decide⟩
  · exact tmod_in ha
theorem Vb.num {n e : Int} (h : -9223372036854775808 ≤ n ∧ n ≤ 9223372036854775807) : Vb (numV n e).1 := by
  unfold numV
  split
  · exact ⟨h, by simp⟩
  · exact Vb.nul
theorem Vb.one {o : Int} {a : Vv} : Vb (one o a).1 := by
  unfold Ev.one
  split
  · split <;> exact Vb.tr _ (by omega)
  split
  · exact Vb.nul
  split
  · split
    · exact Vb.nul
    · exact Vb.trV _
  split
  · exact Vb.nul
  · exact Vb.num (rv_in _)
theorem Vb.call {nm : List UInt8} {a : Vv} (h : Vb a) : Vb (callV nm a).1 := by
  unfold callV
  split
  · exact Vb.nul
  split
  · exact ⟨⟨by show _ ≤ (a.s.length : Int); omega, by have := h.2; show (a.s.length : Int) ≤ _; omega⟩, by simp⟩
  split
  · exact Vb.num (rv_in _)
  · exact Vb.nul
theorem Vb.cat {a b : Vv} : Vb (if 32 < a.s.length ∨ 32 < b.s.length ∨ 32 < a.s.length + b.s.length then (Ev.nul, (3 : Int)) else (⟨3, 0, a.s ++ b.s⟩, 0)).1 := by
  split
  · exact Vb.nul
  · exact ⟨⟨show (-9223372036854775808 : Int) ≤ 0 by decide, show (0 : Int) ≤ 9223372036854775807 by decide⟩, by show (a.s ++ b.s).length ≤ _; rw [List.length_append]; omega⟩
theorem Vb.math {o : Int} {a b : Vv} (ha : Vb a) : Vb (mathV o a b).1 := by
  unfold mathV
  refine Vb.ite Vb.nul (Vb.ite Vb.nul (Vb.ite Vb.cat ?_))
  unfold mathN
  exact Vb.ite (Vb.num (rv_in _)) (Vb.ite (Vb.num (rv_in _)) (Vb.ite (Vb.num (rv_in _)) (Vb.ite (Vb.num (ov_in _ ha.1)) (Vb.num (rs_in _ ha.1)))))
theorem Vb.inn {a : Vv} : ∀ {l : List Ex} {out : Int}, Vb (inL ord row prs a out l).1
  | [], out => by rw [inL]; exact Vb.trV _
  | b :: r, out => by
    rw [inL]
    split
    · exact Vb.nul
    split
    · exact Vb.nul
    split
    · exact Vb.trV _
    · exact Vb.inn
theorem Vb.co : ∀ {l : List Ex} {a : Vv}, Vb a → (∀ x ∈ l, Vb (come ord row prs x).1) → Vb (coL ord row prs a l).1
  | [], a, h, _ => by
    rw [coL]
    split
    · exact Vb.nul
    · exact h
  | b :: r, a, h, hl => by
    rw [coL]
    split
    · exact h
    split
    · exact Vb.nul
    · exact Vb.co (hl b (by simp)) fun x hx => hl x (List.mem_cons_of_mem _ hx)
theorem Vb.comb {k o : Int} {nm : List UInt8} {a b il cl : Vv × Int} (ha : Vb a.1) (h1 : Vb il.1) (h2 : Vb cl.1) : Vb (comb ord k o nm a b il cl).1 := by
  unfold Ev.comb
  exact Vb.ite Vb.nul (Vb.ite Vb.one (Vb.ite (Vb.ite Vb.nul h1) (Vb.ite h2 (Vb.ite (Vb.call ha) (Vb.ite (Vb.ite Vb.nul (Vb.ite (Vb.trV _) (Vb.ite Vb.nul (Vb.ite Vb.nul (Vb.trV _))))) (Vb.ite Vb.nul (Vb.ite (Vb.math ha) (Vb.ite Vb.nul (Vb.trV _)))))))))
theorem Vb.valAt {l : List Vv} (h : ∀ v ∈ l, Vb v) {i : Int} : Vb (valAt l i).1 := by
  unfold Ev.valAt
  split
  · exact Vb.nul
  · show Vb (l.getD i.toNat Ev.nul)
    rw [List.getD_eq_getElem?_getD]
    cases hx : l[i.toNat]? with
    | none => exact Vb.nul
    | some v => exact h v (List.mem_of_getElem? hx)
mutual
/-- Its literals are as a machine has them. -/
def LitsB : Ex → Prop
  | .mk k _ _ vn vs _ kids => (k = 1 → Vb ⟨k, vn, vs⟩) ∧ LitsBL kids
def LitsBL : List Ex → Prop
  | [] => True
  | x :: l => LitsB x ∧ LitsBL l
end
theorem litsBL_iff : ∀ {l : List Ex}, LitsBL l ↔ ∀ x ∈ l, LitsB x
  | [] => by rw [LitsBL]; simp
  | x :: l => by rw [LitsBL, litsBL_iff]; simp
theorem litsB_mk (k o vk vn : Int) (vs nm : List UInt8) (kids : List Ex) : LitsB (.mk k o vk vn vs nm kids) ↔ (k = 1 → Vb ⟨k, vn, vs⟩) ∧ ∀ x ∈ kids, LitsB x := by rw [LitsB, litsBL_iff]
/-- What it comes to is as a machine has it. -/
theorem come_vb (hr : ∀ v ∈ row, Vb v) (hp : ∀ v ∈ prs, Vb v) : ∀ e : Ex, LitsB e → Vb (come ord row prs e).1 := by
  refine Ex.byKids fun k o vk vn vs nm kids ih hl => ?_
  obtain ⟨h1, h2⟩ := (litsB_mk _ _ _ _ _ _ _).1 hl
  rw [come]
  split
  · rename_i h; exact h1 h
  split
  · exact Vb.nul
  split
  · exact Vb.valAt hr
  split
  · exact Vb.valAt hp
  match kids with
  | [] => rw [comeK]; exact Vb.nul
  | a :: r =>
    rw [comeK]
    exact Vb.comb (ih a (by simp) (h2 a (by simp))) Vb.inn (Vb.co (ih a (by simp) (h2 a (by simp))) fun x hx => ih x (List.mem_cons_of_mem _ hx) (h2 x (List.mem_cons_of_mem _ hx)))
end
end Go.Proofs.YtbdippgamlknbaaGreatDoor.Ev
namespace Go.Proofs.YtbdippgamlknbaaGreatDoor.Mem
open Go.RowKit
/-- From A on the cells of the list us can be read; they lie in a block below B. -/
def Row (w : World) (B : Nat) (A : Option Addr) (us : List Value) : Prop :=
  ∀ k u, us[k]? = some u → ∃ b o, A = some ⟨b, o, none⟩ ∧ b < B ∧ w.cell? ⟨b, o + k, none⟩ = some u
theorem Row.none_ {w : World} {B : Nat} {A : Option Addr} : Row w B A [] := fun k u h => by simp at h
/-- The number k of a slice of numbers. -/
theorem Row.int {w : World} {B : Nat} {A : Option Addr} {xs : List Int} (h : Row w B A (xs.map (.int .i64))) {k : Nat} (hk : k < xs.length) :
    ∃ b o x, A = some ⟨b, o, none⟩ ∧ b < B ∧ xs[k]? = some x ∧ w.cell? ⟨b, o + k, none⟩ = some (.int .i64 x) := by
  obtain ⟨b, o, e, hb, hc⟩ := h k (.int .i64 xs[k]) (by simp [hk])
  exact ⟨b, o, xs[k], e, hb, List.getElem?_eq_getElem hk, hc⟩
/-- A call behind a call: old memory still stands. -/
theorem on {w a b : World} (h : Below w.heap.size w a) (k : Below a.heap.size a b) : Below w.heap.size w b := h.trans (k.mono h.size)
theorem al {w a : World} (h : Below w.heap.size w a) (o : Obj) : Below w.heap.size w (a.alloc o) := h.alloc h.size o
theorem cell_lt {w : World} {b o : Nat} {v : Value} (h : w.cell? ⟨b, o, none⟩ = some v) : b < w.heap.size := by
  rcases Nat.lt_or_ge b w.heap.size with h1 | h1
  · exact h1
  · exfalso
    unfold World.cell? at h
    simp [Array.getElem?_eq_none h1] at h
end Go.Proofs.YtbdippgamlknbaaGreatDoor.Mem
namespace Go.Proofs.YtbdippgamlknbaaGreatDoor.Mem
open Go.RowKit Go.ChangeShapes Go.WideShapes
theorem cell_block {w : World} {p : Addr} {v : Value} (h : w.cell? p = some v) : p.block < w.heap.size := by
  rcases Nat.lt_or_ge p.block w.heap.size with h1 | h1
  · exact h1
  · exfalso
    unfold World.cell? at h
    simp [Array.getElem?_eq_none h1] at h
section
variable {H : Type} {enc : TypeId × Value → H} {P : Program} {W : World}
end
end Go.Proofs.YtbdippgamlknbaaGreatDoor.Mem
namespace Go.Proofs.YtbdippgamlknbaaGreatDoor.Right
/-- May a byte stand in a text? -/
def okB (c : UInt8) : Bool := !(decide ((c.toNat : Int) < 32) || decide (126 < (c.toNat : Int)))
/-- May all bytes stand in a text? -/
def pl (l : List UInt8) : Bool := l.all okB
/-- Is a value right? -/
def okV (k n : Int) (l : List UInt8) : Bool :=
  if k = 0 then decide (n = 0) && decide (l = []) else if k = 1 then decide (l = []) else if k = 2 then (decide (n = 0) || decide (n = 1)) && decide (l = [])
  else if k = 3 then decide (n = 0) && decide (l.length ≤ 32) && pl l else false
/-- A value. -/
structure Vl where
  k : Int
  n : Int
  s : ByteArray
  deriving DecidableEq, Inhabited
theorem ok_0 {n : Int} {l : List UInt8} : okV 0 n l = (decide (n = 0) && decide (l = [])) := rfl
theorem ok_1 {n : Int} {l : List UInt8} : okV 1 n l = decide (l = []) := rfl
theorem ok_2 {n : Int} {l : List UInt8} : okV 2 n l = ((decide (n = 0) || decide (n = 1)) && decide (l = [])) := rfl
theorem ok_3 {n : Int} {l : List UInt8} : okV 3 n l = (decide (n = 0) && decide (l.length ≤ 32) && pl l) := rfl
theorem ok_no {k n : Int} {l : List UInt8} (h0 : ¬ k = 0) (h1 : ¬ k = 1) (h2 : ¬ k = 2) (h3 : ¬ k = 3) : okV k n l = false := by unfold okV; rw [if_neg h0, if_neg h1, if_neg h2, if_neg h3]
theorem l_inj {a b : ByteArray} (h : a.data.toList = b.data.toList) : a = b := by
  obtain ⟨⟨x⟩⟩ := a
  obtain ⟨⟨y⟩⟩ := b
  have h : x = y := h
  subst h
  rfl
end Go.Proofs.YtbdippgamlknbaaGreatDoor.Right
namespace Go.Proofs.YtbdippgamlknbaaGreatDoor.Mem
open Go.RowKit Go.Proofs.YtbdippgamlknbaaGreatDoor.Right Go.ChangeShapes Go.WideShapes Go.Deep
/-- From A on the values of the list can be read; they lie in a block below B. -/
def Vals (w : World) (B : Nat) (A : Option Addr) (vs : List Vl) : Prop :=
  ∀ j v, vs[j]? = some v → ∃ b o, A = some ⟨b, o, none⟩ ∧ b < B ∧ w.cell? ⟨b, o + j * 3, none⟩ = some (.int .i64 v.k) ∧ w.cell? ⟨b, o + j * 3 + 1, none⟩ = some (.int .i64 v.n) ∧ w.cell? ⟨b, o + j * 3 + 2, none⟩ = some (.string v.s)
theorem Vals.none_ {w : World} {B : Nat} {A : Option Addr} : Vals w B A [] := fun k u h => by simp at h
theorem Vals.to {w w' : World} {B : Nat} {A : Option Addr} {vs : List Vl} (h : Vals w B A vs) (hk : ∀ p : Addr, p.block < B → w'.cell? p = w.cell? p) : Vals w' B A vs :=
  fun k u hu => by
    obtain ⟨b, o, e, hb, h0, h1, h2⟩ := h k u hu
    exact ⟨b, o, e, hb, (hk _ hb).trans h0, (hk _ hb).trans h1, (hk _ hb).trans h2⟩
theorem Vals.more {w : World} {B B' : Nat} {A : Option Addr} {vs : List Vl} (h : Vals w B A vs) (hB : B ≤ B') : Vals w B' A vs :=
  fun k u hu => by
    obtain ⟨b, o, e, hb, h0⟩ := h k u hu
    exact ⟨b, o, e, by omega, h0⟩
theorem Vals.below {w w' : World} {B B' : Nat} {A : Option Addr} {vs : List Vl} (h : Vals w B A vs) (hb : Below B' w w') (hB : B ≤ B') : Vals w' B A vs :=
  h.to fun p hp => hb.cell (by omega)
/-- The value at a place. -/
theorem Vals.at_ {w : World} {B : Nat} {A : Option Addr} {vs : List Vl} (h : Vals w B A vs) {k : Nat} (hk : k < vs.length) :
    ∃ b o v, A = some ⟨b, o, none⟩ ∧ b < B ∧ vs[k]? = some v ∧ w.cell? ⟨b, o + k * 3, none⟩ = some (.int .i64 v.k) ∧ w.cell? ⟨b, o + k * 3 + 1, none⟩ = some (.int .i64 v.n) ∧ w.cell? ⟨b, o + k * 3 + 2, none⟩ = some (.string v.s) := by
  obtain ⟨b, o, e, hb, hc⟩ := h k vs[k] (List.getElem?_eq_getElem hk)
  exact ⟨b, o, vs[k], e, hb, List.getElem?_eq_getElem hk, hc⟩
section
variable {H : Type} {enc : TypeId × Value → H} {P : Program} {W : World}
/-- A slice of values that came in. -/
theorem open_vals {t e : TypeId} {f0 f1 f2 : Field} {A : Option Addr} {n c : Nat} {d : DataW H} {p : List MemPlace} (ht : P.underlying t = some (.slice e)) (he : P.underlying e = some (.struct #[f0, f1, f2])) (hone : oneCellFields P #[f0, f1, f2] = true) (hC : P.cellsOf e = 3)
    (g0 : P.underlying f0.type = some (.int .i64)) (g1 : P.underlying f1.type = some (.int .i64)) (g2 : P.underlying f2.type = some .string) (h : DataW.Trod enc P W 0 (fun _ => true) true t (.slice A n c) d p) :
    ∃ vs : List Vl, n ≤ vs.length ∧ vs.length ≤ n ∧ n ≤ 9223372036854775807 ∧ Vals W W.heap.size A vs ∧ (∀ v ∈ vs, (-9223372036854775808 ≤ v.n ∧ v.n ≤ 9223372036854775807) ∧ v.s.size ≤ maxLen) := by
  obtain ⟨fuel, hf⟩ := h
  rcases open_slice ht hf with ⟨hcs, _⟩ | ⟨a, l, c', m, k, D, Pl, hcs, _, hl, hm, hmm, _, hx⟩
  · simp [Value.cells] at hcs
    obtain ⟨rfl, rfl, rfl⟩ := hcs
    exact ⟨[], by simp, by simp, by omega, Vals.none_, by simp⟩
  · simp [Value.cells] at hcs
    obtain ⟨rfl, rfl, rfl⟩ := hcs
    obtain ⟨o0, k0⟩ := hone_of hone 0 f0 rfl
    obtain ⟨o1, k1⟩ := hone_of hone 1 f1 rfl
    obtain ⟨o2, k2⟩ := hone_of hone 2 f2 rfl
    have each : ∀ i, i < n → ∃ v : Vl, (W.cell? (a.add (i * 3)) = some (.int .i64 v.k) ∧ W.cell? (a.add (i * 3 + 1)) = some (.int .i64 v.n) ∧ W.cell? (a.add (i * 3 + 2)) = some (.string v.s)) ∧ (Lit.int .i64 v.n).wf = true ∧ v.s.size ≤ maxLen := by
      intro i hi
      obtain ⟨cs', h1, h2⟩ := hx i (by rw [hmm]; simp; omega)
      rw [hC] at h1
      obtain ⟨_, hlen, hcell⟩ := World.cells?_some h1
      obtain ⟨xs, k', _, _, _, hxl, hfd⟩ := DataW.trod_struct he h2
      match xs, hxl, cs', hlen with
      | [y0, y1, y2], _, [v0, v1, v2], _ =>
        have t0 := hfd 0 f0 rfl
        have t1 := hfd 1 f1 rfl
        have t2 := hfd 2 f2 rfl
        simp [o0, o1, o2, k0, k1, k2] at t0 t1 t2
        obtain ⟨a0, e0, _, _⟩ := DataW.trod_int g0 t0
        obtain ⟨a1, e1, _, w1⟩ := DataW.trod_int g1 t1
        obtain ⟨a2, e2, _, w2⟩ := DataW.trod_string g2 t2
        simp at e0 e1 e2
        subst e0 e1 e2
        have c0 := hcell 0 (by omega)
        have c1 := hcell 1 (by omega)
        have c2 := hcell 2 (by omega)
        rw [add_add] at c0 c1 c2
        exact ⟨⟨a0, a1, a2⟩, ⟨by simpa using c0, by simpa using c1, by simpa using c2⟩, w1, w2⟩
    obtain ⟨q, hq⟩ := choose_lt each
    unfold maxLen at hm
    refine ⟨(List.range n).map q, by simp, by simp, by omega, ?_, ?_⟩
    · intro j v hj
      rw [List.getElem?_map] at hj
      obtain ⟨i, hi, rfl⟩ := Option.map_eq_some_iff.1 hj
      obtain ⟨hjn, hi'⟩ := List.getElem?_eq_some_iff.1 hi
      simp at hjn hi'
      subst hi'
      obtain ⟨⟨c0, c1, c2⟩, _, _⟩ := hq j hjn
      obtain ⟨b, o, s⟩ := a
      have hs : s = none := by simpa [Addr.add] using World.cell?_spot (hq 0 (by omega)).1.1
      subst hs
      rw [add_plain] at c0 c1 c2
      exact ⟨b, o, rfl, cell_block c0, c0, c1, c2⟩
    · intro v hv
      obtain ⟨i, hi, rfl⟩ := List.mem_map.1 hv
      obtain ⟨_, h1, h2⟩ := hq i (List.mem_range.1 hi)
      exact ⟨bounds_i64 h1, h2⟩
end
section
variable {H : Type} {enc : TypeId × Value → H} {P : Program} {W : World}
end
end Go.Proofs.YtbdippgamlknbaaGreatDoor.Mem
