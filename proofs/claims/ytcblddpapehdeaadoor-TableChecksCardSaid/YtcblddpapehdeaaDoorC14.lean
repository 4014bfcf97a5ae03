/- All that was there stays, but one block. Trees whose texts are not too long; what a list's beginning is. Lists of data that a call makes: a slice of the call's own, whose elements lead elsewhere; Lists of trees that a call makes: one more behind; what they read as. All parts of a tree, in the text's order: the document's list (registrarref10.Parts). -/
import Derived.Test.YtcblddpapehdeaaDoorC05
import Derived.Test.YtcblddpapehdeaaDoorC04
import Derived.Test.YtcblddpapehdeaaDoorC02
import Derived.Test.YtcblddpapehdeaaDoorC03
namespace Go.Proofs.YtcblddpapehdeaaDoor.Mem
open Go.RowKit
set_option linter.unusedVariables false
/-- Below p nothing turns, and above it nothing that was there. -/
def Oth (p : Nat) (w w' : World) : Prop := Below p w w' ∧ ∀ b, b < w.heap.size → b ≠ p → w'.heap[b]? = w.heap[b]?
section
variable {p : Nat} {w a b : World}
theorem Oth.refl (p : Nat) (w : World) : Oth p w w := ⟨Below.refl _ _, fun _ _ _ => rfl⟩
theorem Oth.trans (h : Oth p w a) (k : Oth p a b) : Oth p w b :=
  ⟨h.1.trans k.1, fun c hc hp => (k.2 c (Nat.lt_of_lt_of_le hc h.1.size) hp).trans (h.2 c hc hp)⟩
theorem Oth.alloc (h : Oth p w a) (hp : p ≤ a.heap.size) (o : Obj) : Oth p w (a.alloc o) :=
  ⟨h.1.alloc hp o, fun c hc hcp => (Below.heap_alloc a o c (Nat.lt_of_lt_of_le hc h.1.size)).trans (h.2 c hc hcp)⟩
theorem Oth.set (h : Oth p w a) (i : Nat) (v : Value) : Oth p w (a.setCell ⟨p, i, none⟩ v) :=
  ⟨h.1.setCell (Nat.le_refl _) v, fun c hc hcp => (Below.heap_setCell a ⟨p, i, none⟩ v c hcp).trans (h.2 c hc hcp)⟩
theorem Oth.of (h : Below w.heap.size w a) (hp : p ≤ w.heap.size) : Oth p w a := ⟨h.mono hp, fun c hc _ => h.block c hc⟩
theorem Oth.cel {B : Nat} {t : TypeId} {cs : Array Value} (h : Oth p w a) (hB : B ≠ p) (hc : Cel w B t cs) : Cel a B t cs := (h.2 B hc.lt hB).trans hc
end
end Go.Proofs.YtcblddpapehdeaaDoor.Mem
namespace Go.Proofs.YtcblddpapehdeaaDoor.Ep
open Go.RowKit Go.Proofs.YtcblddpapehdeaaDoor.Mem Go.Proofs.YtcblddpapehdeaaDoor.Right
set_option linter.unusedVariables false
abbrev tI : TypeId := 3
abbrev tE : TypeId := 54
mutual
/-- No text in it is longer than a machine can walk in one sitting. -/
def Lim : Ex → Prop
  | .mk _ _ _ _ vs nm kids => vs.length ≤ 1000000 ∧ nm.length ≤ 1000000 ∧ LimL kids
def LimL : List Ex → Prop
  | [] => True
  | x :: l => Lim x ∧ LimL l
end
theorem limL_iff : ∀ {l : List Ex}, LimL l ↔ ∀ x ∈ l, Lim x
  | [] => by rw [LimL]; simp
  | x :: l => by rw [LimL, limL_iff]; simp
theorem lim_mk (k o vk vn : Int) (vs nm : List UInt8) (kids : List Ex) : Lim (.mk k o vk vn vs nm kids) ↔ vs.length ≤ 1000000 ∧ nm.length ≤ 1000000 ∧ ∀ x ∈ kids, Lim x := by rw [Lim, limL_iff]
mutual
theorem cnt_lim : ∀ {e : Ex} {n m : Nat}, cnt e n = some m → Lim e
  | .mk k o vk vn vs nm kids, n, m, h => by
    rw [cnt] at h
    split at h
    · cases h
    · rename_i h0
      rw [Lim]
      exact ⟨by omega, by omega, cntL_lim h⟩
theorem cntL_lim : ∀ {l : List Ex} {n m : Nat}, cntL l n = some m → LimL l
  | [], n, m, h => by rw [LimL]; trivial
  | x :: l, n, m, h => by
    rw [cntL] at h
    split at h
    · cases h
    · rename_i m' e
      rw [LimL]
      exact ⟨cnt_lim e, cntL_lim h⟩
end
theorem rightL_snoc {slots : Bool} : ∀ (l : List Ex) (x : Ex), rightL slots (l ++ [x]) = (rightL slots l && rightB slots x)
  | [], x => by simp [rightL]
  | y :: l, x => by rw [List.cons_append, rightL, rightL, rightL_snoc l x, Bool.and_assoc]
end Go.Proofs.YtcblddpapehdeaaDoor.Ep
namespace Go.Proofs.YtcblddpapehdeaaDoor.Mem
open Go.RowKit Go.Deep
set_option linter.unusedVariables false
theorem flatk_len {k : Nat} : ∀ {css : List (List Value)}, (∀ cs ∈ css, cs.length = k) → css.flatten.length = css.length * k
  | [], _ => by simp
  | cs :: r, h => by
    rw [List.flatten_cons, List.length_append, flatk_len fun c hc => h c (List.mem_cons_of_mem _ hc), h cs (by simp), List.length_cons, Nat.add_mul]; omega
theorem flatk_at {k : Nat} : ∀ {css : List (List Value)} {j i : Nat} {cs : List Value} {u : Value}, (∀ cs ∈ css, cs.length = k) → css[j]? = some cs → cs[i]? = some u → css.flatten[j * k + i]? = some u
  | [], j, i, cs, u, _, h, _ => by simp at h
  | c :: r, 0, i, cs, u, hl, h, hu => by
    simp at h; subst h
    have hi := (List.getElem?_eq_some_iff.1 hu).1
    rw [List.flatten_cons, List.getElem?_append_left (by omega), show 0 * k + i = i by omega]; exact hu
  | c :: r, j + 1, i, cs, u, hl, h, hu => by
    rw [List.getElem?_cons_succ] at h
    have := flatk_at (fun c hc => hl c (List.mem_cons_of_mem _ hc)) h hu
    have h7 := hl c (by simp)
    have e : (j + 1) * k + i = k + (j * k + i) := by rw [Nat.add_mul]; omega
    rw [List.flatten_cons, e, List.getElem?_append_right (by omega), h7, show k + (j * k + i) - k = j * k + i by omega]; exact this
/-- A list of data in a slice of the call's own, each of k cells; what they lead to lies in blocks of S. -/
def OwnD (w : World) (base : Nat) (e : TypeId) (k : Nat) (S : Nat → Prop) (v : Value) (l : List Dt) : Prop :=
  ∃ css : List (List Value), css.length = l.length ∧ (∀ cs ∈ css, cs.length = k) ∧ w.ownsRow base e k v l.length css.flatten ∧ ∀ (j : Nat) (d : Dt) (cs : List Value), l[j]? = some d → css[j]? = some cs → DtIn w S d cs
section
variable {w w' : World} {base : Nat} {e : TypeId} {k : Nat} {S S' : Nat → Prop} {v : Value} {l : List Dt}
theorem OwnD.lt (h : OwnD w base e k S v l) : ∀ g, v.ownBlock = some g → base ≤ g ∧ g < w.heap.size := by
  obtain ⟨css, _, _, h, _⟩ := h
  exact h.lt
theorem OwnD.form (h : OwnD w base e k S v l) : ∃ A c, v = .slice A l.length c ∧ (A = none → c = 0) ∧ l.length ≤ c ∧ c ≤ maxLen := by
  obtain ⟨css, hl, _, h, _⟩ := h
  rcases h.2 with ⟨rfl, h0⟩ | ⟨g, cap, cur, rfl, _, _, h1, h2, _⟩
  · exact ⟨none, 0, by rw [h0], fun _ => rfl, by omega, Nat.zero_le _⟩
  · exact ⟨_, cap, rfl, (fun e => by cases e), h1, h2⟩
/-- Elsewhere something has grown. -/
theorem OwnD.kept {row : Option Nat} (h : OwnD w base e k S v l) (hg : w.grownBy w' row) (hne : v.ownBlock = none ∨ v.ownBlock ≠ row) (hS : ∀ b, S b → b < w.heap.size ∧ some b ≠ row) : OwnD w' base e k S v l := by
  obtain ⟨css, hl, hk, ho, hx⟩ := h
  refine ⟨css, hl, hk, ho.kept hg hne, fun j d cs he hc => ?_⟩
  exact DtIn.to (fun _ h => h) (fun p hp => World.cell?_of_block (hg.block p.block (hS _ hp).1 (hS _ hp).2)) d cs (hx j d cs he hc)
/-- It reads as the list. -/
theorem OwnD.row (hk0 : k ≠ 0) {A : Option Addr} {n c : Nat} (h : OwnD w base e k S (.slice A n c) l) : RowIn w (fun b => S b ∨ (Value.slice A n c).ownBlock = some b) A k l 0 := by
  obtain ⟨css, hl, h7, ho, hx⟩ := h
  refine RowIn.of fun j d he => ?_
  have hj := (List.getElem?_eq_some_iff.1 he).1
  have hcs : css[j]? = some css[j] := List.getElem?_eq_getElem (by omega)
  have hlen := h7 css[j] (List.getElem_mem _)
  rcases ho.2 with ⟨_, h0⟩ | ⟨g, cap, cur, hv, _, hg, _⟩
  · omega
  · injection hv with hA hn hc
    subst hA
    refine ⟨g, 0, css[j], rfl, .inr rfl, hlen, fun i u hu => ?_, (hx j d _ he hcs).more fun b hb => .inl hb⟩
    have := ho.cells (g := g) rfl _ _ (flatk_at h7 hcs hu)
    rw [show (0 : Nat) + (0 + j) * k + i = j * k + i by rw [Nat.zero_add, Nat.zero_add]]
    have e2 : (⟨g, 0, none⟩ : Addr).add (j * k + i) = ⟨g, j * k + i, none⟩ := by unfold Addr.add; split <;> simp_all
    rw [e2] at this
    exact this
end
/-- Slices of type t have elements of type e, each of k cells and so many bytes. -/
def ElemK (P : Program) (t e : TypeId) (k bytes : Nat) : Prop :=
  ∃ i z, P.underlying t = some (.slice e) ∧ P.info? e = some i ∧ i.zero = some z ∧ i.size = k ∧ i.bytes = bytes ∧ z.cells.size = k ∧ 0 < k
theorem ElemK.of {P : Program} {t e : TypeId} {z : Value} {k bytes : Nat} (ht : P.underlying t = some (.slice e)) (hi : (P.info? e).map (fun i => (i.zero, i.size, i.bytes)) = some (some z, k, bytes)) (hz : z.cells.size = k) (hk : 0 < k) : ElemK P t e k bytes := by
  obtain ⟨i, h, h0, h1, h2⟩ := info_parts hi
  exact ⟨i, z, ht, h, h0, h1, h2, hz, hk⟩
end Go.Proofs.YtcblddpapehdeaaDoor.Mem
namespace Go.Proofs.YtcblddpapehdeaaDoor.Ep
open Go.RowKit Go.Proofs.YtcblddpapehdeaaDoor.Mem Go.Deep
set_option linter.unusedVariables false
/-- A list of trees in a slice of the call's own; the trees' kids lie in blocks of S. -/
def OwnT (w : World) (base : Nat) (tE : TypeId) (S : Nat → Prop) (v : Value) (l : List Ex) : Prop := OwnD w base tE 7 S v (l.map exDt)
section
variable {w w' : World} {base : Nat} {tE : TypeId} {S S' : Nat → Prop} {v : Value} {l : List Ex}
theorem OwnT.lt (h : OwnT w base tE S v l) : ∀ k, v.ownBlock = some k → base ≤ k ∧ k < w.heap.size := OwnD.lt h
theorem OwnT.form (h : OwnT w base tE S v l) : ∃ A c, v = .slice A l.length c ∧ (A = none → c = 0) ∧ l.length ≤ c ∧ c ≤ maxLen := by
  have := OwnD.form h
  rw [List.length_map] at this
  exact this
theorem OwnT.kept {row : Option Nat} (h : OwnT w base tE S v l) (hg : w.grownBy w' row) (hne : v.ownBlock = none ∨ v.ownBlock ≠ row) (hS : ∀ b, S b → b < w.heap.size ∧ some b ≠ row) : OwnT w' base tE S v l := OwnD.kept h hg hne hS
theorem OwnT.kids {A : Option Addr} {n c : Nat} (h : OwnT w base tE S (.slice A n c) l) : KidsIn w (fun b => S b ∨ (Value.slice A n c).ownBlock = some b) A 0 l := OwnD.row (by decide) h
end
end Go.Proofs.YtcblddpapehdeaaDoor.Ep
namespace Go.Proofs.YtcblddpapehdeaaDoor.Ep
open Go.RowKit Go.Proofs.YtcblddpapehdeaaDoor.Mem Go.Proofs.YtcblddpapehdeaaDoor.Right Go.Deep
set_option linter.unusedVariables false
mutual
def partsE : Ex → List Ex
  | .mk k o vk vn vs nm kids => .mk k o vk vn vs nm kids :: partsL kids
def partsL : List Ex → List Ex
  | [] => []
  | x :: l => partsE x ++ partsL l
end
theorem partsE_mk (k o vk vn : Int) (vs nm : List UInt8) (kids : List Ex) : partsE (.mk k o vk vn vs nm kids) = .mk k o vk vn vs nm kids :: partsL kids := by rw [partsE]
theorem partsL_app : ∀ l r : List Ex, partsL (l ++ r) = partsL l ++ partsL r
  | [], r => by rw [partsL]; rfl
  | x :: l, r => by rw [List.cons_append, partsL, partsL, partsL_app l r, List.append_assoc]
theorem partsL_take {l : List Ex} {j : Nat} {x : Ex} (h : l[j]? = some x) : partsL (l.take (j + 1)) = partsL (l.take j) ++ partsE x := by
  rw [List.take_add_one, h, partsL_app]
  show _ ++ partsL [x] = _
  rw [partsL, partsL, List.append_nil]
mutual
theorem parts_len : ∀ e : Ex, (partsE e).length = size e
  | .mk k o vk vn vs nm kids => by rw [partsE, size, List.length_cons, partsL_len kids, Nat.add_comm]
theorem partsL_len : ∀ l : List Ex, (partsL l).length = sizeL l
  | [] => by rw [partsL, sizeL]; rfl
  | x :: l => by rw [partsL, sizeL, List.length_append, parts_len x, partsL_len l]
end
theorem sizeL_app : ∀ l r : List Ex, sizeL (l ++ r) = sizeL l + sizeL r
  | [], r => by rw [sizeL]; simp
  | x :: l, r => by rw [List.cons_append, sizeL, sizeL, sizeL_app l r]; omega
theorem sizeL_take (l : List Ex) (j : Nat) : sizeL (l.take j) ≤ sizeL l := by
  have h : sizeL l = sizeL (l.take j) + sizeL (l.drop j) := by rw [← sizeL_app, List.take_append_drop]
  omega
/-- A whole list of trees behind a list of the call's own. -/
theorem wp_trees {P : Program} {w : World} {ops : Array Oper} {rest : List Oper} {o : Oper} {a : Act} {Q : Exit → Act → World → Prop} {t tE : TypeId} {bytes : Nat} (E : ElemK P t tE 7 bytes) (base b2 : Nat) (s y : Operand)
    (hgd : o.guard = none) (ho : o.op = .call { callee := .builtin .append, args := #[s, y], argTypes := #[t, t] })
    {v v2 : Value} {l r : List Ex} {S : Nat → Prop} (hs : a.eval s = v) (hown : OwnT w base tE S v l) (hy : a.eval y = v2) (hr : OwnT w b2 tE S v2 r) (hr0 : r ≠ []) (hS : ∀ b, S b → b < w.heap.size ∧ some b ≠ v.ownBlock)
    (hn : l.length + r.length ≤ 1000000) (hby : (l.length + r.length) * bytes ≤ 140737488355328) (hB : base ≤ w.heap.size)
    (h : ∀ v' w', OwnT w' base tE S v' (l ++ r) → w.grownBy w' v.ownBlock → (v'.ownBlock = v.ownBlock ∨ v'.ownBlock = some w.heap.size) → wpList P ops Q rest (a.put o.dst v') w') :
    wpList P ops Q (o :: rest) a w := by
  obtain ⟨i, z, ht, hi, hz, hz1, hz2, hzc, hk0⟩ := E
  obtain ⟨css, hl, h7, hrow, hcs⟩ := hown
  obtain ⟨css2, hl2, h72, hrow2, hcs2⟩ := hr
  obtain ⟨g, cap, cur, hv2, hgb, hgh, hcap, hmx, hsz, htk⟩ := hrow2.2.resolve_left (fun e => hr0 (by have := e.2; rw [List.length_map] at this; exact List.length_eq_zero_iff.1 this))
  rw [List.length_map] at hl hrow hl2 hv2 hrow2
  have hone : ∀ u ∈ css2.flatten, u.oneCell' = true := by
    intro u hu
    obtain ⟨cs, hcsm, huc⟩ := List.mem_flatten.1 hu
    obtain ⟨j, hj, rfl⟩ := List.mem_iff_getElem.1 hcsm
    obtain ⟨x, hx⟩ : ∃ x, r[j]? = some x := ⟨_, List.getElem?_eq_getElem (by omega)⟩
    exact ExIn.one (e := x) (hcs2 j (exDt x) _ (by rw [List.getElem?_map, hx]; rfl) (List.getElem?_eq_getElem hj)) u huc
  refine wpList_append_own_at _ hgd s y t ho base tE i z 7 bytes ht hi hz hz1 hz2 hzc hk0 v l.length css.flatten hs hrow ⟨g, 0, none⟩ r.length cap css2.flatten (hy.trans hv2) (by rw [flatk_len h72, hl2]) ?_ hone (by unfold maxLen; omega) hby hB ?_
  · intro j u hu
    have := hrow2.cells (g := g) (by rw [hv2]; rfl) _ _ hu
    exact this
  · intro v' w' h1 h2 _ h3
    refine h v' w' ⟨css ++ css2, by simp [hl, hl2], fun c hc => ?_, by rw [List.length_map, List.length_append, List.flatten_append]; exact h1, fun j d cs' he hc' => ?_⟩ h2 h3
    · rcases List.mem_append.1 hc with hc | hc
      · exact h7 c hc
      · exact h72 c hc
    have hfar : ∀ p : Addr, S p.block → w'.cell? p = w.cell? p := fun p hp => by
      have h4 := hS _ hp
      exact World.cell?_of_block (h2.block p.block h4.1 h4.2)
    rw [List.map_append] at he
    rcases Nat.lt_or_ge j l.length with hj | hj
    · rw [List.getElem?_append_left (by rw [List.length_map]; exact hj)] at he
      rw [List.getElem?_append_left (by omega)] at hc'
      exact DtIn.to (fun _ h => h) hfar d cs' (hcs j d cs' he hc')
    · rw [List.getElem?_append_right (by rw [List.length_map]; exact hj), List.length_map] at he
      rw [List.getElem?_append_right (by omega), hl] at hc'
      exact DtIn.to (fun _ h => h) hfar d cs' (hcs2 _ d cs' he hc')
theorem OwnT.less {w : World} {base b' : Nat} {tE : TypeId} {S : Nat → Prop} {v : Value} {l : List Ex} (h : OwnT w base tE S v l) (hb : b' ≤ base) : OwnT w b' tE S v l := by
  obtain ⟨css, h1, h2, h3, h4⟩ := h
  exact ⟨css, h1, h2, ⟨h3.1, h3.2.imp id fun ⟨g, cap, cur, g1, g2, g3⟩ => ⟨g, cap, cur, g1, Nat.le_trans hb g2, g3⟩⟩, h4⟩
theorem owt_one {w : World} {base : Nat} {tE : TypeId} {S : Nat → Prop} {x : Ex} {cs : List Value} (hx : ExIn w S x cs) (hS : ∀ b, S b → b < w.heap.size) (hB : base ≤ w.heap.size) : OwnT (w.alloc (.cells cs.toArray tE)) base tE S (.slice (some ⟨w.heap.size, 0, none⟩) 1 1) [x] := by
  have hl := hx.len
  refine ⟨[cs], rfl, by simpa using hl, ⟨by simp [hl], .inr ⟨w.heap.size, 1, cs.toArray, rfl, hB, heap_alloc_new w _, Nat.le_refl _, by unfold maxLen; omega, by simp [hl], by show List.take (1 * 7) cs = _; rw [List.take_of_length_le (by omega)]; simp⟩⟩, fun j d cs' he hc => ?_⟩
  match j, he, hc with
  | 0, he, hc =>
    simp at he hc
    subst he hc
    exact DtIn.to (fun _ h => h) (fun p hp => World.cell?_of_block (heap_alloc_old _ _ (hS _ hp))) _ _ hx
theorem elemEx : ElemK Tryd.prog 52 tE 7 88 := ElemK.of (z := .agg #[.int .i64 0, .int .i64 0, .int .i64 0, .int .i64 0, .string ByteArray.empty, .string ByteArray.empty, .slice none 0 0]) (by kernel_rfl) (by kernel_rfl) rfl (by decide)
set_option maxRecDepth 20000 in
set_option maxHeartbeats 4000000 in
theorem refParts_any (B : Nat) : ∀ (e : Ex) (cs : List Value) (w : World), ExAt w B e cs → B ≤ w.heap.size → size e ≤ 1000 →
    Calls Tryd.prog 77 #[.agg cs.toArray] w fun x w' => ∃ A c, x = .returned (.slice A (size e) c) ∧ OwnT w' w.heap.size tE (fun b => b < B) (.slice A (size e) c) (partsE e) ∧ Below w.heap.size w w' := by
  refine Ex.byKids fun k o vk vn vs nm kids ih cs w h hB hz => ?_
  obtain ⟨A, kn, c, rfl, hkn, -, -, -, hk⟩ := ex_open h
  rw [size] at hz
  obtain ⟨V, hV⟩ : ∃ W1, w.alloc (.cells #[.int .i64 k, .int .i64 o, .int .i64 vk, .int .i64 vn, .string (txt vs), .string (txt nm), .slice A kn c] tE) = W1 := ⟨_, rfl⟩
  have hb : Below w.heap.size w V := by rw [← hV]; exact al (Below.refl _ _) _
  have hbox : Cel V w.heap.size tE #[.int .i64 k, .int .i64 o, .int .i64 vk, .int .i64 vn, .string (txt vs), .string (txt nm), .slice A kn c] := by rw [← hV]; exact Cel.new w tE _ rfl
  have y0 : V.cell? ⟨w.heap.size, 0, none⟩ = some (.int .i64 k) := hbox.at_ 0
  have y1 : V.cell? ⟨w.heap.size, 1, none⟩ = some (.int .i64 o) := hbox.at_ 1
  have y2 : V.cell? ⟨w.heap.size, 2, none⟩ = some (.int .i64 vk) := hbox.at_ 2
  have y3 : V.cell? ⟨w.heap.size, 3, none⟩ = some (.int .i64 vn) := hbox.at_ 3
  have y4 : V.cell? ⟨w.heap.size, 4, none⟩ = some (.string (txt vs)) := hbox.at_ 4
  have y5 : V.cell? ⟨w.heap.size, 5, none⟩ = some (.string (txt nm)) := hbox.at_ 5
  have y6 : V.cell? ⟨w.heap.size, 6, none⟩ = some (.slice A kn c) := hbox.at_ 6
  have hBV : B ≤ V.heap.size := Nat.le_trans hB hb.size
  have hon := owt_one (base := V.heap.size) (tE := tE) (DtIn.below h (hb.mono hB)) (fun b hb' => Nat.lt_of_lt_of_le hb' hBV) (Nat.le_refl _)
  have HO := Lib.hid hon
  have HB := Lib.hid hb
  have HX := Lib.hid hbox
  have HK := Lib.hid hk
  have HN := Lib.hid hkn
  have HZ := Lib.hid hz
  have HBB := Lib.hid hB
  have hkm : kn ≤ 1000000 := by have := sizeL_len kids; omega
  clear hk h hkn hb hbox hBV hon hz hB
  obtain ⟨E, hE⟩ : ∃ E, Ex.mk k o vk vn vs nm kids = E := ⟨_, rfl⟩
  have HPE := Lib.hid (show partsE E = E :: partsL kids ∧ size E = 1 + sizeL kids from by rw [← hE]; exact ⟨partsE_mk _ _ _ _ _ _ _, by rw [size]; omega⟩)
  rw [hE] at HO ⊢
  clear hE
  go_enter Tryd.func77, Tryd.ntmps77
  go_wp2
  clear y0 y1 y2 y3 y4 y5 y6 hV
  go_loopw [4, 3] (fun i u wr => ∃ (j m : Nat) (v : Value), j ≤ kn ∧ i = .int .i64 (j : Int) ∧ v = u ∧ Hid (m = 1 + sizeL (kids.take j)) ∧ Hid (OwnT wr V.heap.size tE (fun b => b < B) v (E :: partsL (kids.take j))) ∧ Hid (Below V.heap.size V wr)) (fun i _ _ => kn + 1 - (intOf i).toNat)
  case atStart => exact ⟨0, 1, _, Nat.zero_le _, rfl, rfl, Lib.hid (by rw [List.take_zero, sizeL]), Lib.hid (by rw [List.take_zero, partsL]; exact HO.out), Lib.hid (al (Below.refl _ _) _)⟩
  case round =>
    obtain ⟨j, m, v, hj, rfl, rfl, HM, HL, HW⟩ := hrel
    have x6 : wr.cell? ⟨w.heap.size, 6, none⟩ = some (.slice A kn c) := (show Cel wr w.heap.size tE _ from (HW.out.block _ HX.out.lt).trans HX.out).at_ 6
    by_cases hlt : j < kn
    · obtain ⟨y, hy⟩ := kid_some (l := kids) (j := j) (by have := HN.out; omega)
      obtain ⟨k', o', vk', vn', vs', nm', ks', A', n', c', b, q, e, rfl, hbb, hn', c0, c1, c2, c3, c4, c5, c6, hin⟩ := kid_at HK.out hy
      have hsy : size y ≤ sizeL kids := sizeL_mem (kid_mem hy)
      have hbw := HB.out.trans (HW.out.mono HB.out.size)
      have hbb2 : b < w.heap.size := Nat.lt_of_lt_of_le hbb HBB.out
      have c0 := (hbw.cell (p := ⟨b, q + j * 7, none⟩) hbb2).trans c0
      have c1 := (hbw.cell (p := ⟨b, q + j * 7 + 1, none⟩) hbb2).trans c1
      have c2 := (hbw.cell (p := ⟨b, q + j * 7 + 2, none⟩) hbb2).trans c2
      have c3 := (hbw.cell (p := ⟨b, q + j * 7 + 3, none⟩) hbb2).trans c3
      have c4 := (hbw.cell (p := ⟨b, q + j * 7 + 4, none⟩) hbb2).trans c4
      have c5 := (hbw.cell (p := ⟨b, q + j * 7 + 5, none⟩) hbb2).trans c5
      have c6 := (hbw.cell (p := ⟨b, q + j * 7 + 6, none⟩) hbb2).trans c6
      obtain ⟨z, hzz⟩ : ∃ z, size y = z := ⟨_, rfl⟩
      have HI := Lib.hid (show Calls Tryd.prog 77 #[exV k' o' vk' vn' (txt vs') (txt nm') A' n' c'] wr fun x w' => ∃ A c, x = .returned (.slice A z c) ∧ OwnT w' wr.heap.size tE (fun b => b < B) (.slice A z c) (partsE y) ∧ Below wr.heap.size wr w' from hzz ▸ ih y (kid_mem hy) _ wr (ExAt.below hin (hbw.mono HBB.out)) (Nat.le_trans HBB.out hbw.size) (by have := HZ.out; omega))
      have HT := Lib.hid (show E :: partsL (kids.take (j + 1)) = (E :: partsL (kids.take j)) ++ partsE y ∧ 1 + sizeL (kids.take (j + 1)) = m + z ∧ (E :: partsL (kids.take j)).length = m ∧ (partsE y).length = z ∧ partsE y ≠ [] ∧ m + z ≤ 2000 from by
        refine ⟨by rw [partsL_take hy]; rfl, ?_, by rw [List.length_cons, partsL_len, HM.out]; omega, by rw [parts_len, hzz], fun g => ?_, ?_⟩
        · rw [List.take_add_one, hy, sizeL_app]
          show 1 + (_ + sizeL [y]) = _
          rw [sizeL, sizeL, HM.out]; omega
        · have h1 := parts_len y
          have h2 := size_pos y
          rw [g] at h1
          simp at h1; omega
        · have h1 := sizeL_take kids j
          have h2 := HZ.out
          have h3 := HM.out
          omega)
      have tl : decide ((j : Int) < (kn : Int)) = true := decide_eq_true (by omega)
      clear hin hn' e hy hsy hbw hbb hbb2 hzz
      go_wp2_with (first | (go_at_call 77; (with_reducible refine HI.out.mono ?_); rintro e' w2 ⟨A2, a2, rfl, ho2, hb2⟩; have HO2 := Lib.hid ho2; have HB2 := Lib.hid hb2; have HL2 := Lib.hid (show OwnT w2 V.heap.size tE (fun b => b < B) v (E :: partsL (kids.take j)) from HL.out.kept (grown_below (r := none) hb2) (by cases hv : v.ownBlock with | none => exact .inl rfl | some k => exact .inr (by simp)) (fun b hb' => ⟨by have h1 := HBB.out; have h2 := HB.out.size; have h3 := HW.out.size; omega, by simp⟩)); clear ho2 hb2) | (at_builtin; refine wp_trees elemEx V.heap.size wr.heap.size (.tmp 14) (.tmp 20) rfl rfl rfl HL2.out rfl HO2.out HT.out.2.2.2.2.1 (fun b hb' => ⟨by have h1 := HBB.out; have h2 := HB.out.size; have h3 := HW.out.size; have h4 := HB2.out.size; omega, fun e => by have h1 := (HL2.out.lt _ e.symm).1; have h2 := HBB.out; have h3 := HB.out.size; omega⟩) (by rw [HT.out.2.2.1, HT.out.2.2.2.1]; have := HT.out.2.2.2.2.2; omega) (by rw [HT.out.2.2.1, HT.out.2.2.2.1]; have := HT.out.2.2.2.2.2; omega) (by have h1 := HW.out.size; have h2 := HB2.out.size; omega) ?_; intro v3 w3 g1 g2 g3; obtain ⟨A3, a3, e3, -⟩ := g1.form; rw [List.length_append, HT.out.2.2.1, HT.out.2.2.2.1] at e3; subst e3; have HL3 := Lib.hid g1; have HW3 := Lib.hid (show Below V.heap.size V w3 from (HW.out.trans (HB2.out.mono HW.out.size)).trans ⟨g2.os, g2.tape, g2.output, g2.size, fun j hj => g2.block j (by have h1 := HW.out.size; have h2 := HB2.out.size; omega) (fun e => by have := (HL2.out.lt _ e.symm).1; omega)⟩); clear g1 g2 g3))
      go_roundw
      case rel => exact ⟨j + 1, m + z, _, by omega, by go_num, rfl, Lib.hid HT.out.2.1.symm, by rw [HT.out.1]; exact HL3, HW3⟩
      case measure => simp [intOf]; omega
    · have tl : decide ((j : Int) < (kn : Int)) = false := decide_eq_false (by omega)
      have hd2 : kids.take j = kids := List.take_of_length_le (by have := HN.out; omega)
      rw [hd2] at HL HM
      obtain ⟨A3, a3, hv3, -⟩ := HL.out.form
      have hl3 : (E :: partsL kids).length = size E := by rw [← HPE.out.1, parts_len]
      rw [hl3] at hv3
      subst hv3
      clear hl3
      go_wp2
      go_ret
      exact ⟨A3, a3, rfl, by rw [HPE.out.1]; exact HL.out.less HB.out.size, HB.out.trans (HW.out.mono HB.out.size)⟩
end Go.Proofs.YtcblddpapehdeaaDoor.Ep
