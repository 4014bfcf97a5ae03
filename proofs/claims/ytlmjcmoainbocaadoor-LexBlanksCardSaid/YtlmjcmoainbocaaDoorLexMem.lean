/- Tokens in memory: each lies in three cells; one more behind those that the call made. -/
import Derived.Test.YtlmjcmoainbocaaDoorLexLong
namespace Go.Proofs.YtlmjcmoainbocaaDoor.Lx
open Go.RowKit Go.Proofs.YtlmjcmoainbocaaDoor.Mem Go.Proofs.YtlmjcmoainbocaaDoor.Right
set_option linter.unusedVariables false

/-- A text, as the model has it. -/
def txt (l : List UInt8) : ByteArray := ⟨l.toArray⟩
def tcell (t : Tk) : List Value := [.int .i64 (t.kind : Int), .string (txt t.text), .int .i64 (t.at_ : Int)]
def tcells (ts : List Tk) : List Value := ts.flatMap tcell
theorem tcells_len : ∀ (ts : List Tk), (tcells ts).length = ts.length * 3
  | [] => rfl
  | t :: r => by
    have := tcells_len r
    unfold tcells at this ⊢
    rw [List.flatMap_cons, List.length_append, this, List.length_cons]
    show 3 + r.length * 3 = _
    omega
theorem tcells_snoc (ts : List Tk) (t : Tk) : tcells ts ++ tcell t = tcells (ts ++ [t]) := by simp [tcells]
theorem tcells_at : ∀ {ts : List Tk} {j : Nat} {t : Tk}, ts[j]? = some t → (tcells ts)[j * 3]? = some (.int .i64 (t.kind : Int)) ∧ (tcells ts)[j * 3 + 1]? = some (.string (txt t.text)) ∧ (tcells ts)[j * 3 + 2]? = some (.int .i64 (t.at_ : Int))
  | [], j, t, h => by simp at h
  | u :: r, 0, t, h => by
    simp at h; subst h
    exact ⟨rfl, rfl, rfl⟩
  | u :: r, j + 1, t, h => by
    rw [List.getElem?_cons_succ] at h
    have e : tcells (u :: r) = tcell u ++ tcells r := by simp [tcells]
    have hl : (tcell u).length = 3 := rfl
    have go : ∀ d, (tcells (u :: r))[(j + 1) * 3 + d]? = (tcells r)[j * 3 + d]? := fun d => by
      rw [e, List.getElem?_append_right (by rw [hl]; omega), hl]
      congr 1
      omega
    obtain ⟨h0, h1, h2⟩ := tcells_at h
    exact ⟨(go 0).trans h0, (go 1).trans h1, (go 2).trans h2⟩
theorem tcell_one (t : Tk) : ∀ u ∈ tcell t, u.oneCell' = true := by
  intro u hu
  simp [tcell] at hu
  rcases hu with rfl | rfl | rfl <;> rfl
/-- From A on the tokens can be read; they lie in a block below B. -/
def Toks (w : World) (B : Nat) (A : Option Addr) (ts : List Tk) : Prop :=
  ∀ j t, ts[j]? = some t → ∃ b o, A = some ⟨b, o, none⟩ ∧ b < B ∧ w.cell? ⟨b, o + j * 3, none⟩ = some (.int .i64 (t.kind : Int)) ∧ w.cell? ⟨b, o + j * 3 + 1, none⟩ = some (.string (txt t.text)) ∧ w.cell? ⟨b, o + j * 3 + 2, none⟩ = some (.int .i64 (t.at_ : Int))
theorem Toks.none_ {w : World} {B : Nat} {A : Option Addr} : Toks w B A [] := fun k u h => by simp at h
theorem Toks.below {w w' : World} {B B' : Nat} {A : Option Addr} {ts : List Tk} (h : Toks w B A ts) (hb : Below B' w w') (hB : B ≤ B') : Toks w' B A ts := fun j t hj => by
  obtain ⟨b, o, e, h0, c0, c1, c2⟩ := h j t hj
  have hk : ∀ p : Addr, p.block < B → w'.cell? p = w.cell? p := fun p hp => hb.cell (by omega)
  exact ⟨b, o, e, h0, (hk _ h0).trans c0, (hk _ h0).trans c1, (hk _ h0).trans c2⟩
theorem toks_of_row {w : World} {B : Nat} {A : Option Addr} {ts : List Tk} (h : Row w B A (tcells ts)) : Toks w B A ts := fun j t hj => by
  obtain ⟨h0, h1, h2⟩ := tcells_at hj
  obtain ⟨b, o, e, hb, c0⟩ := h _ _ h0
  have again : ∀ d v, (tcells ts)[j * 3 + d]? = some v → w.cell? ⟨b, o + (j * 3 + d), none⟩ = some v := fun d v hv => by
    obtain ⟨b', o', e', _, c⟩ := h _ _ hv
    rw [e] at e'
    injection e' with e'
    injection e' with f1 f2
    subst f1 f2
    exact c
  exact ⟨b, o, e, hb, c0, by rw [Nat.add_assoc]; exact again 1 _ h1, by rw [Nat.add_assoc]; exact again 2 _ h2⟩
/-- What the call made can be read. -/
theorem toks_own {w : World} {base : Nat} {e : TypeId} {v : Value} {n : Nat} {ts : List Tk} (h : w.ownsRow base e 3 v n (tcells ts)) : ∃ A c, v = .slice A n c ∧ Toks w w.heap.size A ts ∧ n = ts.length := by
  have hn : n = ts.length := by
    have := h.1
    rw [tcells_len] at this; omega
  rcases h.2 with ⟨rfl, rfl⟩ | ⟨g, cap, cur, rfl, _⟩
  · exact ⟨none, 0, rfl, toks_of_row (Row.own3 h), hn⟩
  · exact ⟨_, cap, rfl, toks_of_row (Row.own3 h), hn⟩
/-- One token behind a list of the call's own. -/
theorem wp_tok {P : Program} {w0 : World} {x : Tk} {ops : Array Oper} {rest : List Oper} {o : Oper} {a : Act} {Q : Exit → Act → World → Prop} {t e : TypeId} {bytes g : Nat} (E : ElemN P t e 3 bytes) (base : Nat) (hg : w0.heap.size = g) (s y : Operand)
    (hgd : o.guard = none) (ho : o.op = .call { callee := .builtin .append, args := #[s, y], argTypes := #[t, t] })
    {v : Value} {n : Nat} {ts : List Tk} (hs : a.eval s = v) (hown : w0.ownsRow base e 3 v n (tcells ts)) (hy : a.eval y = .slice (some ⟨g, 0, none⟩) 1 1)
    (hn : n < 9223372036854775807) (hby : (n + 1) * bytes ≤ 140737488355328) (hB : base ≤ w0.heap.size)
    (h : ∀ v' w', w'.ownsRow base e 3 v' (n + 1) (tcells (ts ++ [x])) → (w0.alloc (.cells #[.int .i64 (x.kind : Int), .string (txt x.text), .int .i64 (x.at_ : Int)] e)).grownBy w' v.ownBlock → wpList P ops Q rest (a.put o.dst v') w') :
    wpList P ops Q (o :: rest) a (w0.alloc (.cells #[.int .i64 (x.kind : Int), .string (txt x.text), .int .i64 (x.at_ : Int)] e)) := by
  subst hg
  obtain ⟨i, z, ht, hi, hz, hz1, hz2, hzc, hpos⟩ := E
  refine wpList_append_own_at _ hgd s y t ho base e i z 3 bytes ht hi hz hz1 hz2 hzc hpos v n (tcells ts) hs (hown.alloc _) ⟨w0.heap.size, 0, none⟩ 1 1 (tcell x) hy rfl ?_ (tcell_one x) (by unfold maxLen; omega) hby (by simp; omega) ?_
  · intro j u hu
    have e2 : (⟨w0.heap.size, 0, none⟩ : Addr).add j = ⟨w0.heap.size, j, none⟩ := by unfold Addr.add; split <;> simp_all
    rw [e2, World.cell?_alloc_at _ _ _ _ (by simp)]
    simpa [tcell] using hu
  · intro v' w' h1 h2 _ _
    rw [tcells_snoc] at h1
    exact h v' w' h1 h2
theorem elem_tok : ElemN Tryd.prog 23 29 3 32 := ElemN.of (z := .agg #[.int .i64 0, .string ByteArray.empty, .int .i64 0]) Tryd.underlying23 (by kernel_rfl) rfl (by decide)

/-! ### What is left to be cut, behind the tokens that are out -/
/-- What lex.Tokens answers. -/
def toksV (l : List UInt8) : List Tk × Nat × Nat := if 400 < l.length then ([], 0, 3) else cut l 0 0
def fin (done : List Tk) (r : List Tk × Nat × Nat) : List Tk × Nat × Nat := if r.2.2 = 0 then (done ++ r.1, r.2) else r
theorem fin_nil (r : List Tk × Nat × Nat) : fin [] r = r := by unfold fin; split <;> rfl
theorem fin_err (done : List Tk) (p e : Nat) (he : e ≠ 0) : fin done ([], p, e) = ([], p, e) := if_neg he
theorem fin_snoc (done : List Tk) (t : Tk) (r : List Tk × Nat × Nat) : fin (done ++ [t]) r = fin done (if r.2.2 = 0 then (t :: r.1, r.2) else r) := by
  unfold fin
  by_cases h : r.2.2 = 0
  · rw [if_pos h, if_pos h, if_pos (show (t :: r.1, r.2).2.2 = 0 from h), List.append_assoc]; rfl
  · rw [if_neg h, if_neg h, if_neg h]
section
variable {l : List UInt8} {a : Nat} {done : List Tk} {R : List Tk × Nat × Nat}
/-- So many bytes are cut, so many tokens out. -/
def Left (l : List UInt8) (R : List Tk × Nat × Nat) (a : Nat) (done : List Tk) : Prop := fin done (cut (l.drop a) a done.length) = R
theorem Left.start : Left l (cut l 0 0) 0 [] := fin_nil _
variable (h : Left l R a done) {g : Nat} (hg : run blank (l.drop a) = g)
include h hg
theorem Left.word (hb : bad (l.drop (a + g)) = true) : R = ([], a + g, 15) := by
  unfold Left at h
  have hu : (l.drop a).drop (run blank (l.drop a)) = l.drop (a + g) := by rw [List.drop_drop, hg]
  have hne : l.drop (a + g) ≠ [] := fun e => by rw [e] at hb; cases hb
  rw [cut_none hu hne (by rw [next_bad hne, if_pos hb]), hg] at h
  exact h.symm
theorem Left.full (hb : bad (l.drop (a + g)) = false) (hn : done.length = 120) : R = ([], a + g, 5) := by
  unfold Left at h
  have hu : (l.drop a).drop (run blank (l.drop a)) = l.drop (a + g) := by rw [List.drop_drop, hg]
  rw [hn] at h
  by_cases hne : l.drop (a + g) = []
  · rw [cut_end (hu.trans hne), if_pos rfl, hg] at h
    exact h.symm
  · rw [cut_full hu (by rw [next_bad hne, hb]; rfl), hg] at h
    exact h.symm
theorem Left.ends (hk : (lng (l.drop (a + g))).1 = 7) (hb : bad (l.drop (a + g)) = false) (hn : done.length ≠ 120) : (lng (l.drop (a + g))).2 = 0 ∧ R = (done ++ [⟨7, [], a + g⟩], 0, 0) := by
  unfold Left at h
  have hu : (l.drop a).drop (run blank (l.drop a)) = l.drop (a + g) := by rw [List.drop_drop, hg]
  by_cases hne : l.drop (a + g) = []
  · rw [cut_end (hu.trans hne), if_neg hn, hg] at h
    rw [hne]
    exact ⟨rfl, h.symm⟩
  · have := next_kind (k := (lng (l.drop (a + g))).1) (n := (lng (l.drop (a + g))).2) (s := l.drop (a + g)) (by rw [next_bad hne, hb]; rfl)
    omega
theorem Left.more {k n : Nat} (hk : lng (l.drop (a + g)) = (k, n)) (hk7 : k ≠ 7) (hb : bad (l.drop (a + g)) = false) (hn : done.length ≠ 120) : 0 < n ∧ Left l R (a + g + n) (done ++ [⟨k, (l.drop (a + g)).take n, a + g⟩]) := by
  unfold Left at h ⊢
  have hu : (l.drop a).drop (run blank (l.drop a)) = l.drop (a + g) := by rw [List.drop_drop, hg]
  have hne : l.drop (a + g) ≠ [] := fun e => by
    rw [e] at hk
    have : (7, 0) = (k, n) := hk
    injection this with h1 _
    exact hk7 h1.symm
  have hx : next (l.drop (a + g)) = some (k, n) := by rw [next_bad hne, hb, hk]; rfl
  rw [cut_some hu hx hn, hg, ← fin_snoc, List.drop_drop] at h
  refine ⟨(next_le hx).1, ?_⟩
  rw [List.length_append]
  exact h
end
end Go.Proofs.YtlmjcmoainbocaaDoor.Lx
