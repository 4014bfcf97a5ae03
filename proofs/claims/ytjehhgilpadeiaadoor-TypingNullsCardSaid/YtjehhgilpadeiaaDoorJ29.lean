/- Lists of data that a call makes: a slice of the call's own, whose elements lead elsewhere; -/
import Derived.Test.YtjehhgilpadeiaaDoorJ07
import Derived.Test.YtjehhgilpadeiaaDoorJ12
import Derived.Test.YtjehhgilpadeiaaDoorJ09
namespace Go.Proofs.YtjehhgilpadeiaaDoor.Mem
open Go.RowKit Go.Deep
set_option linter.unusedVariables false
theorem flatk_at {k : Nat} : ∀ {css : List (List Value)} {j i : Nat} {cs : List Value} {u : Value}, (∀ cs ∈ css, cs.length = k) → css[j]? = some cs → cs[i]? = some u → css.flatten[j * k + i]? = some u
  | [], j, i, cs, u, _, h, _ => by simp at h
  | c :: r, 0, i, cs, u, hl, h, hu => by
    simp at h; subst h
    have hi := (List.getElem?_eq_some_iff.1 hu).1
    rw [List.flatten_cons, List.getElem?_append_left (by omega), show 0 * k + i = i by omega]; exact hu
  | c :: r, j + 1, i, cs, u, hl, h, hu => by
    rw [List.getElem?_cons_succ] at h
    have := flatk_at (fun c hc => hl c (List.mem_cons_of_mem _ hc)) h hu
    have h7 := hl c (by simp)
    have e : (j + 1) * k + i = k + (j * k + i) := by rw [Nat.add_mul]; omega
    rw [List.flatten_cons, e, List.getElem?_append_right (by omega), h7, show k + (j * k + i) - k = j * k + i by omega]; exact this
/-- A list of data in a slice of the call's own, each of k cells; what they lead to lies in blocks of S. -/
def OwnD (w : World) (base : Nat) (e : TypeId) (k : Nat) (S : Nat → Prop) (v : Value) (l : List Dt) : Prop :=
  ∃ css : List (List Value), css.length = l.length ∧ (∀ cs ∈ css, cs.length = k) ∧ w.ownsRow base e k v l.length css.flatten ∧ ∀ (j : Nat) (d : Dt) (cs : List Value), l[j]? = some d → css[j]? = some cs → DtIn w S d cs
section
variable {w w' : World} {base : Nat} {e : TypeId} {k : Nat} {S S' : Nat → Prop} {v : Value} {l : List Dt}
/-- Made with room ahead. -/
theorem OwnD.made (w : World) (base : Nat) (e : TypeId) (k : Nat) (S : Nat → Prop) (cur : Array Value) (cap : Nat) (hb : base ≤ w.heap.size) (hm : cap ≤ maxLen) (hs : cur.size = cap * k) :
    OwnD (w.alloc (.cells cur e)) base e k S (.slice (some ⟨w.heap.size, 0, none⟩) 0 cap) [] :=
  ⟨[], rfl, by simp, World.ownsRow_made w cur cap hb hm hs, fun j d cs h => by simp at h⟩
theorem OwnD.lt (h : OwnD w base e k S v l) : ∀ g, v.ownBlock = some g → base ≤ g ∧ g < w.heap.size := by
  obtain ⟨css, _, _, h, _⟩ := h
  exact h.lt
theorem OwnD.form (h : OwnD w base e k S v l) : ∃ A c, v = .slice A l.length c ∧ (A = none → c = 0) ∧ l.length ≤ c ∧ c ≤ maxLen := by
  obtain ⟨css, hl, _, h, _⟩ := h
  rcases h.2 with ⟨rfl, h0⟩ | ⟨g, cap, cur, rfl, _, _, h1, h2, _⟩
  · exact ⟨none, 0, by rw [h0], fun _ => rfl, by omega, Nat.zero_le _⟩
  · exact ⟨_, cap, rfl, (fun e => by cases e), h1, h2⟩
/-- Elsewhere something has grown. -/
theorem OwnD.kept {row : Option Nat} (h : OwnD w base e k S v l) (hg : w.grownBy w' row) (hne : v.ownBlock = none ∨ v.ownBlock ≠ row) (hS : ∀ b, S b → b < w.heap.size ∧ some b ≠ row) : OwnD w' base e k S v l := by
  obtain ⟨css, hl, hk, ho, hx⟩ := h
  refine ⟨css, hl, hk, ho.kept hg hne, fun j d cs he hc => ?_⟩
  exact DtIn.to (fun _ h => h) (fun p hp => World.cell?_of_block (hg.block p.block (hS _ hp).1 (hS _ hp).2)) d cs (hx j d cs he hc)
/-- It reads as the list. -/
theorem OwnD.row (hk0 : k ≠ 0) {A : Option Addr} {n c : Nat} (h : OwnD w base e k S (.slice A n c) l) : RowIn w (fun b => S b ∨ (Value.slice A n c).ownBlock = some b) A k l 0 := by
  obtain ⟨css, hl, h7, ho, hx⟩ := h
  refine RowIn.of fun j d he => ?_
  have hj := (List.getElem?_eq_some_iff.1 he).1
  have hcs : css[j]? = some css[j] := List.getElem?_eq_getElem (by omega)
  have hlen := h7 css[j] (List.getElem_mem _)
  rcases ho.2 with ⟨_, h0⟩ | ⟨g, cap, cur, hv, _, hg, _⟩
  · omega
  · injection hv with hA hn hc
    subst hA
    refine ⟨g, 0, css[j], rfl, .inr rfl, hlen, fun i u hu => ?_, (hx j d _ he hcs).more fun b hb => .inl hb⟩
    have := ho.cells (g := g) rfl _ _ (flatk_at h7 hcs hu)
    rw [show (0 : Nat) + (0 + j) * k + i = j * k + i by rw [Nat.zero_add, Nat.zero_add]]
    have e2 : (⟨g, 0, none⟩ : Addr).add (j * k + i) = ⟨g, j * k + i, none⟩ := by unfold Addr.add; split <;> simp_all
    rw [e2] at this
    exact this
end
/-- Slices of type t have elements of type e, each of k cells and so many bytes. -/
def ElemK (P : Program) (t e : TypeId) (k bytes : Nat) : Prop :=
  ∃ i z, P.underlying t = some (.slice e) ∧ P.info? e = some i ∧ i.zero = some z ∧ i.size = k ∧ i.bytes = bytes ∧ z.cells.size = k ∧ 0 < k
theorem ElemK.of {P : Program} {t e : TypeId} {z : Value} {k bytes : Nat} (ht : P.underlying t = some (.slice e)) (hi : (P.info? e).map (fun i => (i.zero, i.size, i.bytes)) = some (some z, k, bytes)) (hz : z.cells.size = k) (hk : 0 < k) : ElemK P t e k bytes := by
  obtain ⟨i, h, h0, h1, h2⟩ := info_parts hi
  exact ⟨i, z, ht, h, h0, h1, h2, hz, hk⟩
/-- One more behind a list of the call's own. -/
theorem wp_dt {P : Program} {w0 : World} {ops : Array Oper} {rest : List Oper} {o : Oper} {a : Act} {Q : Exit → Act → World → Prop} {t e : TypeId} {k bytes g : Nat} (E : ElemK P t e k bytes) (base : Nat) (hg : w0.heap.size = g) (s y : Operand)
    (hgd : o.guard = none) (ho : o.op = .call { callee := .builtin .append, args := #[s, y], argTypes := #[t, t] })
    {v : Value} {l : List Dt} {x : Dt} {cs : List Value} {S : Nat → Prop} (hs : a.eval s = v) (hown : OwnD w0 base e k S v l) (hx : DtIn w0 S x cs) (hck : cs.length = k) (hc1 : ∀ u ∈ cs, u.oneCell' = true) (hS : ∀ b, S b → b < w0.heap.size ∧ some b ≠ v.ownBlock) (hy : a.eval y = .slice (some ⟨g, 0, none⟩) 1 1)
    (hn : l.length < 9223372036854775807) (hby : (l.length + 1) * bytes ≤ 140737488355328) (hB : base ≤ w0.heap.size)
    (h : ∀ v' w', OwnD w' base e k S v' (l ++ [x]) → (w0.alloc (.cells cs.toArray e)).grownBy w' v.ownBlock → (v'.ownBlock = v.ownBlock ∨ v'.ownBlock = some (w0.alloc (.cells cs.toArray e)).heap.size) → wpList P ops Q rest (a.put o.dst v') w') :
    wpList P ops Q (o :: rest) a (w0.alloc (.cells cs.toArray e)) := by
  subst hg
  obtain ⟨i, z, ht, hi, hz, hz1, hz2, hzc, hk0⟩ := E
  obtain ⟨css, hl, h7, hrow, hcs⟩ := hown
  refine wpList_append_own_at _ hgd s y t ho base e i z k bytes ht hi hz hz1 hz2 hzc hk0 v l.length css.flatten hs (hrow.alloc _) ⟨w0.heap.size, 0, none⟩ 1 1 cs hy (by omega) ?_ hc1 (by unfold maxLen; omega) hby (by simp; omega) ?_
  · intro j u hu
    have e2 : (⟨w0.heap.size, 0, none⟩ : Addr).add j = ⟨w0.heap.size, j, none⟩ := by unfold Addr.add; split <;> simp_all
    have hj := (List.getElem?_eq_some_iff.1 hu).1
    rw [e2, World.cell?_alloc_at _ _ _ _ (by simp)]
    simp only [List.getElem?_toArray]
    exact hu
  · intro v' w' h1 h2 _ h3
    refine h v' w' ⟨css ++ [cs], by simp [hl], fun c hc => ?_, by simpa using h1, fun j d cs' he hc' => ?_⟩ h2 h3
    · rcases List.mem_append.1 hc with hc | hc
      · exact h7 c hc
      · rw [List.mem_singleton.1 hc]; exact hck
    have hfar : ∀ p : Addr, S p.block → w'.cell? p = w0.cell? p := fun p hp => by
      have h4 := hS _ hp
      rw [World.cell?_of_block (h2.block p.block (by simp; omega) h4.2)]
      exact World.cell?_of_block (heap_alloc_old _ _ h4.1)
    rcases Nat.lt_or_ge j l.length with hj | hj
    · rw [List.getElem?_append_left hj] at he
      rw [List.getElem?_append_left (by omega)] at hc'
      exact DtIn.to (fun _ h => h) hfar d cs' (hcs j d cs' he hc')
    · rw [List.getElem?_append_right hj] at he
      rw [List.getElem?_append_right (by omega), hl] at hc'
      have hj0 : j - l.length = 0 := by
        have := (List.getElem?_eq_some_iff.1 he).1
        simp at this; omega
      rw [hj0] at he hc'
      simp at he hc'
      subst he hc'
      exact DtIn.to (fun _ h => h) hfar _ _ hx
end Go.Proofs.YtjehhgilpadeiaaDoor.Mem
