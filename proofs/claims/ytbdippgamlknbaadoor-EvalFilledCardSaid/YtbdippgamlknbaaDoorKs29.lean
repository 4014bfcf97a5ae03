/- Lists of data that a call makes: a slice of the call's own, whose elements lead elsewhere; Lists of trees that a call makes: one more behind; what they read as. A list of trees, copied (slices.Clone): the row is the call's own, the kids' kids are the  The columns that a tree names, each once, in the text's order; its greatest parameter. Numbers that a machine has are wide enough. -/
import Derived.Maps.AppendAt
import Derived.OwnWalk
import Derived.Laws.AppendOwnNone
import Derived.Test.YtbdippgamlknbaaDoorKs05
import Derived.Test.YtbdippgamlknbaaDoorKs03
import Derived.Test.YtbdippgamlknbaaDoorKs07
import Derived.Test.YtbdippgamlknbaaDoorKs06
import Derived.Test.YtbdippgamlknbaaDoorKs02
namespace Go.Proofs.YtbdippgamlknbaaDoor.Mem
open Go.RowKit Go.Deep
set_option linter.unusedVariables false
theorem flatk_len {k : Nat} : ∀ {css : List (List Value)}, (∀ cs ∈ css, cs.length = k) → css.flatten.length = css.length * k
  | [], _ => by simp
  | cs :: r, h => by
    rw [List.flatten_cons, List.length_append, flatk_len fun c hc => h c (List.mem_cons_of_mem _ hc), h cs (by simp), List.length_cons, Nat.add_mul]; omega
theorem flatk_at {k : Nat} : ∀ {css : List (List Value)} {j i : Nat} {cs : List Value} {u : Value}, (∀ cs ∈ css, cs.length = k) → css[j]? = some cs → cs[i]? = some u → css.flatten[j * k + i]? = some u
  | [], j, i, cs, u, _, h, _ => by simp at h
  | c :: r, 0, i, cs, u, hl, h, hu => by
    simp at h; subst h
    have hi := (List.getElem?_eq_some_iff.1 hu).1
    rw [List.flatten_cons, List.getElem?_append_left (by omega), show 0 * k + i = i by omega]; exact hu
  | c :: r, j + 1, i, cs, u, hl, h, hu => by
    rw [List.getElem?_cons_succ] at h
    have := flatk_at (fun c hc => hl c (List.mem_cons_of_mem _ hc)) h hu
    have h7 := hl c (by simp)
    have e : (j + 1) * k + i = k + (j * k + i) := by rw [Nat.add_mul]; omega
    rw [List.flatten_cons, e, List.getElem?_append_right (by omega), h7, show k + (j * k + i) - k = j * k + i by omega]; exact this
/-- A list of data in a slice of the call's own, each of k cells; what they lead to lies in blocks of S. -/
def OwnD (w : World) (base : Nat) (e : TypeId) (k : Nat) (S : Nat → Prop) (v : Value) (l : List Dt) : Prop :=
  ∃ css : List (List Value), css.length = l.length ∧ (∀ cs ∈ css, cs.length = k) ∧ w.ownsRow base e k v l.length css.flatten ∧ ∀ (j : Nat) (d : Dt) (cs : List Value), l[j]? = some d → css[j]? = some cs → DtIn w S d cs
section
variable {w w' : World} {base : Nat} {e : TypeId} {k : Nat} {S S' : Nat → Prop} {v : Value} {l : List Dt}
/-- Made with room ahead. -/
theorem OwnD.made (w : World) (base : Nat) (e : TypeId) (k : Nat) (S : Nat → Prop) (cur : Array Value) (cap : Nat) (hb : base ≤ w.heap.size) (hm : cap ≤ maxLen) (hs : cur.size = cap * k) :
    OwnD (w.alloc (.cells cur e)) base e k S (.slice (some ⟨w.heap.size, 0, none⟩) 0 cap) [] :=
  ⟨[], rfl, by simp, World.ownsRow_made w cur cap hb hm hs, fun j d cs h => by simp at h⟩
theorem OwnD.lt (h : OwnD w base e k S v l) : ∀ g, v.ownBlock = some g → base ≤ g ∧ g < w.heap.size := by
  obtain ⟨css, _, _, h, _⟩ := h
  exact h.lt
theorem OwnD.form (h : OwnD w base e k S v l) : ∃ A c, v = .slice A l.length c ∧ (A = none → c = 0) ∧ l.length ≤ c ∧ c ≤ maxLen := by
  obtain ⟨css, hl, _, h, _⟩ := h
  rcases h.2 with ⟨rfl, h0⟩ | ⟨g, cap, cur, rfl, _, _, h1, h2, _⟩
  · exact ⟨none, 0, by rw [h0], fun _ => rfl, by omega, Nat.zero_le _⟩
  · exact ⟨_, cap, rfl, (fun e => by cases e), h1, h2⟩
/-- Elsewhere something has grown. -/
theorem OwnD.kept {row : Option Nat} (h : OwnD w base e k S v l) (hg : w.grownBy w' row) (hne : v.ownBlock = none ∨ v.ownBlock ≠ row) (hS : ∀ b, S b → b < w.heap.size ∧ some b ≠ row) : OwnD w' base e k S v l := by
  obtain ⟨css, hl, hk, ho, hx⟩ := h
  refine ⟨css, hl, hk, ho.kept hg hne, fun j d cs he hc => ?_⟩
  exact DtIn.to (fun _ h => h) (fun p hp => World.cell?_of_block (hg.block p.block (hS _ hp).1 (hS _ hp).2)) d cs (hx j d cs he hc)
/-- It reads as the list. -/
theorem OwnD.row (hk0 : k ≠ 0) {A : Option Addr} {n c : Nat} (h : OwnD w base e k S (.slice A n c) l) : RowIn w (fun b => S b ∨ (Value.slice A n c).ownBlock = some b) A k l 0 := by
  obtain ⟨css, hl, h7, ho, hx⟩ := h
  refine RowIn.of fun j d he => ?_
  have hj := (List.getElem?_eq_some_iff.1 he).1
  have hcs : css[j]? = some css[j] := List.getElem?_eq_getElem (by omega)
  have hlen := h7 css[j] (List.getElem_mem _)
  rcases ho.2 with ⟨_, h0⟩ | ⟨g, cap, cur, hv, _, hg, _⟩
  · omega
  · injection hv with hA hn hc
    subst hA
    refine ⟨g, 0, css[j], rfl, .inr rfl, hlen, fun i u hu => ?_, (hx j d _ he hcs).more fun b hb => .inl hb⟩
    have := ho.cells (g := g) rfl _ _ (flatk_at h7 hcs hu)
    rw [show (0 : Nat) + (0 + j) * k + i = j * k + i by rw [Nat.zero_add, Nat.zero_add]]
    have e2 : (⟨g, 0, none⟩ : Addr).add (j * k + i) = ⟨g, j * k + i, none⟩ := by unfold Addr.add; split <;> simp_all
    rw [e2] at this
    exact this
end
/-- Slices of type t have elements of type e, each of k cells and so many bytes. -/
def ElemK (P : Program) (t e : TypeId) (k bytes : Nat) : Prop :=
  ∃ i z, P.underlying t = some (.slice e) ∧ P.info? e = some i ∧ i.zero = some z ∧ i.size = k ∧ i.bytes = bytes ∧ z.cells.size = k ∧ 0 < k
theorem ElemK.of {P : Program} {t e : TypeId} {z : Value} {k bytes : Nat} (ht : P.underlying t = some (.slice e)) (hi : (P.info? e).map (fun i => (i.zero, i.size, i.bytes)) = some (some z, k, bytes)) (hz : z.cells.size = k) (hk : 0 < k) : ElemK P t e k bytes := by
  obtain ⟨i, h, h0, h1, h2⟩ := info_parts hi
  exact ⟨i, z, ht, h, h0, h1, h2, hz, hk⟩
end Go.Proofs.YtbdippgamlknbaaDoor.Mem
namespace Go.Proofs.YtbdippgamlknbaaDoor.Ep
open Go.RowKit Go.Proofs.YtbdippgamlknbaaDoor.Mem Go.Deep
set_option linter.unusedVariables false
/-- A list of trees in a slice of the call's own; the trees' kids lie in blocks of S. -/
def OwnT (w : World) (base : Nat) (tE : TypeId) (S : Nat → Prop) (v : Value) (l : List Ex) : Prop := OwnD w base tE 7 S v (l.map exDt)
section
variable {w w' : World} {base : Nat} {tE : TypeId} {S S' : Nat → Prop} {v : Value} {l : List Ex}
theorem OwnT.made (w : World) (base : Nat) (tE : TypeId) (S : Nat → Prop) (cur : Array Value) (cap : Nat) (hb : base ≤ w.heap.size) (hm : cap ≤ maxLen) (hs : cur.size = cap * 7) :
    OwnT (w.alloc (.cells cur tE)) base tE S (.slice (some ⟨w.heap.size, 0, none⟩) 0 cap) [] := OwnD.made _ _ _ _ _ _ _ hb hm hs
theorem OwnT.lt (h : OwnT w base tE S v l) : ∀ k, v.ownBlock = some k → base ≤ k ∧ k < w.heap.size := OwnD.lt h
theorem OwnT.form (h : OwnT w base tE S v l) : ∃ A c, v = .slice A l.length c ∧ (A = none → c = 0) ∧ l.length ≤ c ∧ c ≤ maxLen := by
  have := OwnD.form h
  rw [List.length_map] at this
  exact this
theorem OwnT.kept {row : Option Nat} (h : OwnT w base tE S v l) (hg : w.grownBy w' row) (hne : v.ownBlock = none ∨ v.ownBlock ≠ row) (hS : ∀ b, S b → b < w.heap.size ∧ some b ≠ row) : OwnT w' base tE S v l := OwnD.kept h hg hne hS
theorem OwnT.kids {A : Option Addr} {n c : Nat} (h : OwnT w base tE S (.slice A n c) l) : KidsIn w (fun b => S b ∨ (Value.slice A n c).ownBlock = some b) A 0 l := OwnD.row (by decide) h
end
end Go.Proofs.YtbdippgamlknbaaDoor.Ep
namespace Go.Proofs.YtbdippgamlknbaaDoor.Ep
open Go.RowKit Go.Proofs.YtbdippgamlknbaaDoor.Mem Go.Proofs.YtbdippgamlknbaaDoor.Right
set_option linter.unusedVariables false
/-- The cells of a list of trees, one behind the other. -/
theorem flat_kids {w : World} {S : Nat → Prop} {A : Option Addr} : ∀ {l : List Ex} {j0 : Nat}, KidsIn w S A j0 l → ∃ css : List (List Value), css.length = l.length ∧ (∀ cs ∈ css, cs.length = 7) ∧
    (∀ (j : Nat) (x : Ex) (cs : List Value), l[j]? = some x → css[j]? = some cs → ExIn w S x cs) ∧ (∀ b o, A = some ⟨b, o, none⟩ → ∀ (m : Nat) (u : Value), css.flatten[m]? = some u → w.cell? ⟨b, o + j0 * 7 + m, none⟩ = some u) ∧ (l ≠ [] → ∃ b o, A = some ⟨b, o, none⟩)
  | [], _, _ => ⟨[], rfl, by simp, fun j x cs h => by simp at h, fun b o _ m u h => by simp at h, fun h => absurd rfl h⟩
  | x :: l, j0, h => by
    obtain ⟨⟨b, o, cs, hA, hb, hl, hc, hx⟩, hr⟩ := (kidsIn_cons _ _ _ _ _ _).1 h
    obtain ⟨css, h1, h2, h3, h4, _⟩ := flat_kids hr
    refine ⟨cs :: css, by simp [h1], fun c hcm => ?_, fun j y ds hj hd => ?_, fun b' o' hA' m u hu => ?_, fun _ => ⟨b, o, hA⟩⟩
    · rcases List.mem_cons.1 hcm with rfl | hcm
      · exact hl
      · exact h2 c hcm
    · cases j with
      | zero => simp at hj hd; subst hj hd; exact hx
      | succ j => exact h3 j y ds (by simpa using hj) (by simpa using hd)
    · rw [hA] at hA'
      injection hA' with e
      injection e with e1 e2 e3
      subst e1 e2
      rw [List.flatten_cons] at hu
      by_cases hm : m < 7
      · rw [List.getElem?_append_left (by omega)] at hu
        exact hc m u hu
      · rw [List.getElem?_append_right (by omega), hl] at hu
        have := h4 b o hA (m - 7) u hu
        rw [show o + (j0 + 1) * 7 + (m - 7) = o + j0 * 7 + m by omega] at this
        exact this
/-- A row of trees: its cells one behind the other; what the trees are made of lies in S. -/
def Flat (w : World) (S : Nat → Prop) (A : Option Addr) (l : List Ex) : Prop := ∃ css : List (List Value), css.length = l.length ∧ (∀ cs ∈ css, cs.length = 7) ∧
    (∀ (j : Nat) (x : Ex) (cs : List Value), l[j]? = some x → css[j]? = some cs → ExIn w S x cs) ∧ (∀ b o, A = some ⟨b, o, none⟩ → ∀ (m : Nat) (u : Value), css.flatten[m]? = some u → w.cell? ⟨b, o + m, none⟩ = some u) ∧ (l ≠ [] → ∃ b o, A = some ⟨b, o, none⟩)
theorem KidsIn.flat {w : World} {S : Nat → Prop} {A : Option Addr} {l : List Ex} (h : KidsIn w S A 0 l) : Flat w S A l := by
  obtain ⟨css, h1, h2, h3, h4, h5⟩ := flat_kids h
  exact ⟨css, h1, h2, h3, fun b o hA m u hu => by
    have := h4 b o hA m u hu
    rwa [show o + 0 * 7 + m = o + m by omega] at this, h5⟩
theorem Flat.below {w w' : World} {S : Nat → Prop} {A : Option Addr} {l : List Ex} (h : Flat w S A l) (hS : ∀ b, S b → b < w.heap.size) (hb : Below w.heap.size w w') : Flat w' S A l := by
  obtain ⟨css, h1, h2, h3, h4, h5⟩ := h
  refine ⟨css, h1, h2, fun j x cs hx hc => ExIn.to (fun _ h => h) (fun p hp => hb.cell (hS _ hp)) x cs (h3 j x cs hx hc), fun b o hA m u hu => ?_, h5⟩
  have := h4 b o hA m u hu
  exact (hb.cell (p := ⟨b, o + m, none⟩) (cell_lt this)).trans this
theorem elemEx : ElemK Tryd.prog 36 38 7 88 :=
  ElemK.of (z := .agg #[.int .i64 0, .int .i64 0, .int .i64 0, .int .i64 0, .string ⟨#[]⟩, .string ⟨#[]⟩, .slice none 0 0]) Tryd.underlying36 (by kernel_rfl) (by decide) (by decide)
/-- The copy: its row, and what lies there. -/
def Copy (S : Nat → Prop) (n0 : Nat) (w : World) (v : Value) (l : List Ex) : Prop :=
  ∃ A c g, v = .slice A l.length c ∧ l.length ≤ c ∧ c ≤ maxLen ∧ (A = none → c = 0) ∧ (l ≠ [] → A = some ⟨g, 0, none⟩ ∧ n0 ≤ g ∧ (∃ cur, Cel w g 38 cur ∧ l.length * 7 ≤ cur.size) ∧
    ∀ (j : Nat) (y : Ex), l[j]? = some y → ∃ ds, ds.length = 7 ∧ (∀ i u, ds[i]? = some u → w.cell? ⟨g, j * 7 + i, none⟩ = some u) ∧ ExIn w S y ds)
theorem Copy.none_ (S : Nat → Prop) (n0 : Nat) (w : World) : Copy S n0 w (.slice none 0 0) [] := ⟨none, 0, 0, rfl, Nat.zero_le _, Nat.zero_le _, fun _ => rfl, fun h => absurd rfl h⟩
theorem wp_copy {w : World} {S : Nat → Prop} {n0 : Nat} (hS : ∀ b, S b → b < n0) {l : List Ex} {A : Option Addr} {c g : Nat} {ops : Array Oper} {rest : List Oper} {o : Oper} {a : Act} {Q : Exit → Act → World → Prop} (s y : Operand)
    (hgd : o.guard = none) (ho : o.op = .call { callee := .builtin .append, args := #[s, y], argTypes := #[36, 36] })
    (hs : a.eval s = .slice (some ⟨g, 0, none⟩) 0 0) (hown : Cel w g 38 #[]) (hg : n0 ≤ g) {ad : Addr} (hA : A = some ad) (hy : a.eval y = .slice A l.length c) (hr : Flat w S A l) (hn : l.length ≤ 1000)
    (h : ∀ v' w', Copy S n0 w' v' l → Below n0 w w' → wpList Tryd.prog ops Q rest (a.put o.dst v') w') : wpList Tryd.prog ops Q (o :: rest) a w := by
  obtain ⟨css, h1, h2, h3, h4, h5⟩ := hr
  obtain ⟨i, z, ht, hi, hz, hz1, hz2, hzc, _⟩ := elemEx
  have hfl : css.flatten.length = l.length * 7 := by rw [flatk_len h2, h1]
  have hne : l = [] ∨ ∃ b o', ad = ⟨b, o', none⟩ := by
    cases l with
    | nil => exact .inl rfl
    | cons x r =>
      obtain ⟨b, o', e⟩ := h5 (by simp)
      rw [hA] at e
      injection e with e
      exact .inr ⟨b, o', e⟩
  have hO : w.ownsRow n0 38 7 (.slice (some ⟨g, 0, none⟩) 0 0) 0 [] := ⟨rfl, .inr ⟨g, 0, #[], rfl, hg, hown, Nat.le_refl _, Nat.zero_le _, rfl, rfl⟩⟩
  have hgs := hown.lt
  subst hA
  refine wpList_append_own_at _ hgd s y 36 ho n0 38 i z 7 88 ht hi hz hz1 hz2 hzc (by decide) _ 0 [] hs hO ad l.length c css.flatten hy hfl ?_ ?_ (by unfold maxLen; omega) (by omega) (by omega) fun v' w' g1 g2 _ g3 => h v' w' ?_ ?_
  · intro j u hu
    rcases hne with rfl | ⟨b, o', rfl⟩
    · simp at hfl
      have := (List.getElem?_eq_some_iff.1 hu).1
      simp [hfl] at this
    · have := h4 b o' rfl j u hu
      have e2 : (⟨b, o', none⟩ : Addr).add j = ⟨b, o' + j, none⟩ := by unfold Addr.add; split <;> simp_all
      rw [e2]
      exact this
  · intro u hu
    obtain ⟨cs, hcs, huc⟩ := List.mem_flatten.1 hu
    obtain ⟨j, hj, rfl⟩ := List.getElem_of_mem hcs
    obtain ⟨x, hx⟩ := kid_some (l := l) (j := j) (by omega)
    exact (h3 j x _ hx (List.getElem?_eq_getElem hj)).one u huc
  · rw [List.nil_append, Nat.zero_add] at g1
    have hgb : ∀ b, S b → b < w.heap.size ∧ some b ≠ (Value.slice (some ⟨g, 0, none⟩) 0 0).ownBlock := fun b hb => ⟨by have := hS b hb; omega, fun e => by
      have := hS b hb
      simp [Value.ownBlock] at e
      omega⟩
    rcases g1.2 with ⟨rfl, h0⟩ | ⟨g', cap, cur, rfl, hbg, hcel, hcap, hmx, hsz, htk⟩
    · have : l = [] := List.length_eq_zero_iff.1 h0
      subst this
      exact Copy.none_ _ _ _
    · refine ⟨_, cap, g', rfl, hcap, hmx, (fun e => by cases e), fun _ => ⟨rfl, hbg, ⟨cur, hcel, by have := hcap; rw [hsz]; omega⟩, fun j y hy => ?_⟩⟩
      have hj := (List.getElem?_eq_some_iff.1 hy).1
      have hcs : css[j]? = some css[j] := List.getElem?_eq_getElem (by omega)
      refine ⟨css[j], h2 _ (List.getElem_mem _), fun i u hu => ?_, ExIn.to (fun _ h => h) (fun p hp => World.cell?_of_block (g2.block p.block (hgb _ hp).1 (hgb _ hp).2)) y _ (h3 j y _ hy hcs)⟩
      have := g1.cells (g := g') rfl _ _ (flatk_at h2 hcs hu)
      have e2 : (⟨g', 0, none⟩ : Addr).add (j * 7 + i) = ⟨g', j * 7 + i, none⟩ := by unfold Addr.add; split <;> simp_all
      rw [e2] at this
      exact this
  · exact (Below.refl n0 w).grown g2 (by omega) (fun k hk => by
      simp [Value.ownBlock] at hk
      omega)
set_option maxRecDepth 20000 in
set_option maxHeartbeats 1000000 in
theorem copy_flat (S : Nat → Prop) (l : List Ex) (A : Option Addr) (c : Nat) (w : World) (hS : ∀ b, S b → b < w.heap.size) (h : Flat w S A l) (hA : A = none → c = 0) (hlc : l.length ≤ c) (hn : l.length ≤ 1000) :
    Calls Tryd.prog 90 #[.slice A l.length c] w fun e w' => ∃ v, e = .returned v ∧ Copy S w.heap.size w' v l ∧ Below w.heap.size w w' := by
  cases A with
  | none =>
    have hc := hA rfl
    have hl : l = [] := List.length_eq_zero_iff.1 (by omega)
    subst hc hl
    have t0 : ∀ w0 : World, (binOp .eql 36 (.slice none 0 0) (.slice none 0 0)).run Tryd.prog w0 = .ok (.bool true) w0 := fun w0 => Lib.run_eql_slice_nil w0 _ _ none 0 0 0 0 Tryd.underlying36
    go_enter Tryd.func90, Tryd.ntmps90
    go_wp2
    go_ret
    exact ⟨_, rfl, Copy.none_ _ _ _, Below.refl _ _⟩
  | some a =>
    obtain ⟨n, hln⟩ : ∃ n, l.length = n := ⟨_, rfl⟩
    have t0 : ∀ w0 : World, (binOp .eql 36 (.slice (some a) n c) (.slice none 0 0)).run Tryd.prog w0 = .ok (.bool false) w0 := fun w0 => Lib.run_eql_slice_nil w0 _ _ (some a) n c 0 0 Tryd.underlying36
    have HW := Lib.hid (show ∀ W, w.alloc (.cells #[] 38) = W → Cel W w.heap.size 38 #[] ∧ Flat W S (some a) l ∧ Below w.heap.size w W from fun W hW => by
      subst hW
      exact ⟨Cel.new w _ _ rfl, h.below hS (al (Below.refl _ _) _), al (Below.refl _ _) _⟩)
    rw [hln]
    have HN := Lib.hid hln
    have HS := Lib.hid hS
    have HNN := Lib.hid hn
    clear h hA hlc hln hn hS
    go_enter Tryd.func90, Tryd.ntmps90
    go_wp2_with (at_builtin; refine wp_copy HS.out (n0 := w.heap.size) (l := l) (.tmp 5) (.tmp 6) rfl rfl rfl (HW.out _ rfl).1 (Nat.le_refl _) rfl (by rw [HN.out]; rfl) (HW.out _ rfl).2.1 HNN.out ?_; intro v w2 hc2 hb2; have HC2 := Lib.hid hc2; have HB2 := Lib.hid ((HW.out _ rfl).2.2.trans hb2); clear hc2 hb2)
    go_ret
    exact ⟨_, rfl, HC2.out, HB2.out⟩
theorem copy_any (S : Nat → Prop) (l : List Ex) (A : Option Addr) (c : Nat) (w : World) (hS : ∀ b, S b → b < w.heap.size) (h : KidsIn w S A 0 l) (hA : A = none → c = 0) (hlc : l.length ≤ c) (hn : l.length ≤ 1000) :
    Calls Tryd.prog 90 #[.slice A l.length c] w fun e w' => ∃ v, e = .returned v ∧ Copy S w.heap.size w' v l ∧ Below w.heap.size w w' := copy_flat S l A c w hS h.flat hA hlc hn
end Go.Proofs.YtbdippgamlknbaaDoor.Ep
namespace Go.Proofs.YtbdippgamlknbaaDoor.Tk
open Go.Proofs.YtbdippgamlknbaaDoor.Ep
set_option linter.unusedVariables false
def ownN (k : Int) (nm : List UInt8) : List (List UInt8) := if k = 2 then [nm] else []
mutual
/-- The columns, one behind the other. -/
def colsE : Ex → List (List UInt8)
  | .mk k _ _ _ _ nm kids => ownN k nm ++ colsL kids
def colsL : List Ex → List (List UInt8)
  | [] => []
  | x :: l => colsE x ++ colsL l
end
mutual
/-- The greatest parameter, from n on. -/
def parE (n : Int) : Ex → Int
  | .mk k o _ _ _ _ kids => parL (if k = 3 then max n o else n) kids
def parL (n : Int) : List Ex → Int
  | [] => n
  | x :: l => parL (parE n x) l
end
theorem parE_mk (n k o vk vn : Int) (vs nm : List UInt8) (kids : List Ex) : parE n (.mk k o vk vn vs nm kids) = parL (if k = 3 then max n o else n) kids := by rw [parE]
theorem parL_app : ∀ (l r : List Ex) (n : Int), parL n (l ++ r) = parL (parL n l) r
  | [], r, n => by rw [parL]; rfl
  | x :: l, r, n => by rw [List.cons_append, parL, parL, parL_app l r]
theorem take_par {l : List Ex} {j : Nat} {x : Ex} (h : l[j]? = some x) (n : Int) : parE (parL n (l.take j)) x = parL n (l.take (j + 1)) := by
  rw [List.take_add_one, h, parL_app]
  show _ = parL _ [x]
  rw [parL, parL]
end Go.Proofs.YtbdippgamlknbaaDoor.Tk
namespace Go.Proofs.YtbdippgamlknbaaDoor.Eo
open Go.Proofs.YtbdippgamlknbaaDoor.Ep
set_option linter.unusedVariables false
theorem wide_fine : ∀ e : Ex, Fine e → Wide e := by
  refine Ex.byKids fun k o vk vn vs nm kids ih h => ?_
  obtain ⟨⟨-, -, -, h1⟩, -, h2⟩ := (fine_mk _ _ _ _ _ _ _).1 h
  exact (wide_mk _ _ _ _ _ _ _).2 ⟨h1, fun x hx => ih x hx (h2 x hx)⟩
end Go.Proofs.YtbdippgamlknbaaDoor.Eo
