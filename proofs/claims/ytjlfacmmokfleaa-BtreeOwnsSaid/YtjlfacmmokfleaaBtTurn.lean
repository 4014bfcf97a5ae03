/- Bytes are written: what becomes of trees none of whose keys lie there. -/
import Derived.Test.YtjlfacmmokfleaaBtSides
import Derived.Test.YtjlfacmmokfleaaBtTells
namespace Go.Proofs.Ytjlfacmmokfleaa.Bt
open Go.RowKit Go.Proofs.Ytjlfacmmokfleaa.Mem Go.Proofs.Ytjlfacmmokfleaa.Right
set_option linter.unusedVariables false

/-- Nothing has turned but in blocks of Z; each has its type still. -/
structure By (Z : Nat → Prop) (w w' : World) : Prop where
  size : w'.heap.size = w.heap.size
  same : ∀ b, ¬ Z b → w'.heap[b]? = w.heap[b]?
  typ : ∀ (b : Nat) (cs : Array Value) (t : TypeId) (fr : Nat × Nat), w.heap[b]? = some (.cells cs t fr) → ∃ cs', w'.heap[b]? = some (.cells cs' t fr)
theorem By.set {Z : Nat → Prop} {B : Nat} (hB : Z B) (w : World) (i : Nat) (v : Value) : By Z w (w.setCell ⟨B, i, none⟩ v) := by
  refine ⟨by simp [World.setCell], fun b hb => ?_, fun b cs t fr h => ?_⟩
  · show (w.heap.modify B _)[b]? = _
    rw [Array.getElem?_modify, if_neg (fun (e : B = b) => hb (e ▸ hB))]
  · show ∃ cs', (w.heap.modify B _)[b]? = _
    rw [Array.getElem?_modify, h]
    by_cases e : B = b
    · rw [if_pos e]; exact ⟨_, rfl⟩
    · rw [if_neg e]; exact ⟨cs, rfl⟩
/-- A pair whose key lies in no block of Z. -/
def Off (Z : Nat → Prop) (r : Pr) : Prop := ∀ b o, r.a = some ⟨b, o, none⟩ → ¬ Z b
theorem By.key {Z : Nat → Prop} {a b : World} (h : By Z a b) {r : Pr} (k : Key a r) (ho : Off Z r) : Key b r := by
  obtain ⟨⟨h1, h2⟩, h3, h4⟩ := k
  refine ⟨⟨fun j u hu => ?_, h2⟩, fun g o e => ?_, h4⟩
  · obtain ⟨g, o, e, hg, hc⟩ := h1 j u hu
    refine ⟨g, o, e, by rw [h.size]; exact hg, ?_⟩
    rw [← hc]
    exact World.cell?_of_block (w := a) (h.same g (ho g o e))
  · obtain ⟨cs, fr, hb⟩ := h3 g o e
    obtain ⟨cs', hb'⟩ := h.typ g cs _ fr hb
    exact ⟨cs', fr, hb'⟩
theorem By.cel {Z : Nat → Prop} {a b : World} (h : By Z a b) (hz : ∀ y, Z y → ∃ cs fr, a.heap[y]? = some (.cells cs 5 fr)) {B : Nat} {t : TypeId} {cs : Array Value} (k : Cel a B t cs) (ht : t ≠ 5) : Cel b B t cs := by
  refine (h.same B (fun e => ?_)).trans k
  obtain ⟨cs2, fr, h2⟩ := hz B e
  have := h2.symm.trans k
  injection this with this
  injection this with _ e2 _
  exact ht e2.symm
theorem By.own {Z : Nat → Prop} {a b : World} (h : By Z a b) (hz : ∀ y, Z y → ∃ cs fr, a.heap[y]? = some (.cells cs 5 fr)) {base : Nat} {e : TypeId} {s n : Nat} {v : Value} {us : List Value} (k : a.ownsRow base e s v n us) (ht : e ≠ 5) : b.ownsRow base e s v n us := by
  obtain ⟨h1, h2⟩ := k
  refine ⟨h1, ?_⟩
  rcases h2 with h2 | ⟨g, cap, cur, rfl, hb, hh, rest⟩
  · exact .inl h2
  · refine .inr ⟨g, cap, cur, rfl, hb, (h.same g (fun e2 => ?_)).trans hh, rest⟩
    obtain ⟨cs2, fr, h2⟩ := hz g e2
    have := h2.symm.trans hh
    injection this with this
    injection this with _ e3 _
    exact ht e3.symm
theorem Nod.by_ {Z : Nat → Prop} {w w' : World} (h : By Z w w') (hz : ∀ y, Z y → ∃ cs fr, w.heap[y]? = some (.cells cs 5 fr)) {b : Nat} {vp vk : Value} {ps : List Pr} {bs : List Nat} (k : Nod w b vp vk ps bs) (ho : ∀ r ∈ ps, Off Z r) : Nod w' b vp vk ps bs :=
  ⟨h.cel hz k.1 (by decide), h.own hz k.2.1 (by decide), h.own hz k.2.2.1 (by decide), fun r hr => h.key (k.2.2.2 r hr) (ho r hr)⟩
theorem Rep.by_ {Z : Nat → Prop} {w w' : World} (h : By Z w w') (hz : ∀ y, Z y → ∃ cs fr, w.heap[y]? = some (.cells cs 5 fr)) : ∀ (d : Nat) (m : Mt d), Rep w d m → (∀ r ∈ prs d m, Off Z r) → Rep w' d m
  | 0, e, _, _ => nomatch e
  | d + 1, m, k, ho => by
    rw [prs_eq] at ho
    exact Rep.mk (Nod.by_ h hz k.node (fun r hr => ho r (List.mem_append.2 (.inl hr)))) (fun x hx => Rep.by_ h hz d x (k.kids x hx) fun r hr => ho r (List.mem_append.2 (.inr (List.mem_flatMap.2 ⟨x, hx, hr⟩))))
theorem BT.by_ {Z : Nat → Prop} {w w' : World} {n₀ tb : Nat} {X : List Nat} {L : List Pr} (k : BT w n₀ tb X L) (h : By Z w w') (hz : ∀ y, Z y → ∃ cs fr, w.heap[y]? = some (.cells cs 5 fr)) (ho : ∀ r ∈ L, Off Z r) : BT w' n₀ tb X L := by
  obtain ⟨d, m, h1, rfl, h3, h4, h5, h6⟩ := k
  exact ⟨d, m, ⟨h.cel hz h1.cel (by decide), Rep.by_ h hz _ m h1.rep ho, h1.one, h1.out, h1.inn, h1.two, h1.le, h1.sorted⟩, rfl, h3, h4, h5, fun y hy => ⟨(h6 y hy).1, by rw [h.size]; exact (h6 y hy).2⟩⟩
theorem RT.by_ {Z : Nat → Prop} {w w' : World} {n₀ rb : Nat} {v : Value} {L : List Pr} (k : RT w n₀ rb v L) (h : By Z w w') (hz : ∀ y, Z y → ∃ cs fr, w.heap[y]? = some (.cells cs 5 fr)) (ho : ∀ r ∈ L, Off Z r) : RT w' n₀ rb v L :=
  ⟨h.cel hz k.cel (by decide), h.own hz k.own (by decide), fun r hr => h.key (k.keys r hr) (ho r hr), k.sorted, k.rb_⟩
theorem Key.lt {w : World} {r : Pr} (k : Key w r) : ∀ b o, r.a = some ⟨b, o, none⟩ → b < w.heap.size := fun b o e => by
  obtain ⟨cs, fr, hb⟩ := k.2.1 b o e
  exact blk_lt hb
theorem BT.keys {w : World} {n₀ tb : Nat} {X : List Nat} {L : List Pr} (h : BT w n₀ tb X L) : ∀ r ∈ L, Key w r := by
  obtain ⟨d, m, h1, rfl, _⟩ := h
  exact Rep.keys _ m h1.rep
/-- Both trees, and blocks of bytes in which none of their keys lie. -/
structure Spoil (w0 w : World) (tb rb n : Nat) (Z : Nat → Prop) : Prop where
  both : ∃ v L L', BT w w0.heap.size tb [rb] L ∧ RT w w0.heap.size rb v L' ∧ L.map Pr.k = L'.map Pr.k ∧ L.length ≤ n ∧ (∀ r ∈ L, Sml r) ∧ (∀ r ∈ L, Off Z r) ∧ ∀ r ∈ L', Off Z r
  old : Below w0.heap.size w0 w
  new : ∀ b, Z b → w0.heap.size ≤ b
  typ : ∀ b, Z b → ∃ cs fr, w.heap[b]? = some (.cells cs 5 fr)
theorem Spoil.duo {w0 w : World} {tb rb n : Nat} {Z : Nat → Prop} (h : Spoil w0 w tb rb n Z) : Duo w w0.heap.size tb rb n := by
  obtain ⟨v, L, L', h1, h2, h3, h4, h5, _⟩ := h.both
  exact ⟨v, L, L', h1, h2, h3, h4, h5⟩
theorem Spoil.set {w0 w : World} {tb rb n : Nat} {Z : Nat → Prop} (h : Spoil w0 w tb rb n Z) {B : Nat} (hB : Z B) (i : Nat) (v : Value) : Spoil w0 (w.setCell ⟨B, i, none⟩ v) tb rb n Z := by
  obtain ⟨u, L, L', h1, h2, h3, h4, h5, h6, h7⟩ := h.both
  have hb := By.set hB w i v
  exact ⟨⟨u, L, L', h1.by_ hb h.typ h6, h2.by_ hb h.typ h7, h3, h4, h5, h6, h7⟩, h.old.setCell (p := ⟨B, i, none⟩) (h.new B hB) _, h.new, fun b hz => by
    obtain ⟨cs, fr, hc⟩ := h.typ b hz
    obtain ⟨cs', hc'⟩ := hb.typ b cs _ fr hc
    exact ⟨cs', fr, hc'⟩⟩
theorem Spoil.drew {w0 w : World} {tb rb n : Nat} {Z : Nat → Prop} (h : Spoil w0 w tb rb n Z) : Spoil w0 w.drew tb rb n Z := by
  obtain ⟨u, L, L', h1, h2, h3⟩ := h.both
  have hb := (Below.refl w.heap.size w).drew
  exact ⟨⟨u, L, L', h1.below hb, h2.below hb, h3⟩, h.old.drew, h.new, h.typ⟩
/-- Blocks that are new since hold no key. -/
theorem Duo.spoil {w0 w W : World} {tb rb n : Nat} {Z : Nat → Prop} (h : Duo w w0.heap.size tb rb n) (h0 : Below w0.heap.size w0 w) (hW : Below w.heap.size w W) (hz : ∀ b, Z b → w.heap.size ≤ b) (ht : ∀ b, Z b → ∃ cs fr, W.heap[b]? = some (.cells cs 5 fr)) : Spoil w0 W tb rb n Z := by
  obtain ⟨v, L, L', h1, h2, h3, h4, h5⟩ := h.both
  have hoff : ∀ r, Key w r → Off Z r := fun r hr b o e hz' => by
    have h8 := hr.lt b o e
    have h9 := hz b hz'
    omega
  exact ⟨⟨v, L, L', h1.below hW, h2.below hW, h3, h4, h5, fun r hr => hoff r (h1.keys r hr), fun r hr => hoff r (h2.keys r hr)⟩, Mem.on h0 hW, fun b hb => Nat.le_trans h0.size (hz b hb), ht⟩
/-- Bytes that may be read and written, one by one. -/
def Rdb (W : World) (A : Option Addr) (n : Nat) : Prop := ∀ j, j < n → ∃ (b o : Nat) (x : UInt8), A = some ⟨b, o, none⟩ ∧ W.cell? ⟨b, o + j, none⟩ = some (.int .u8 (x.toNat : Int)) ∧ W.frozen? ⟨b, o + j, none⟩ = false
theorem Rdb.of {W : World} {r : Pr} (h : Key W r) (ho : Opn W r) {n : Nat} (hn : r.key.length = n) : Rdb W r.a n := fun j hj => by
  obtain ⟨b, o, x, e, hb, hx, hc⟩ := h.1.1.byte (k := j) (by omega)
  obtain ⟨cs, hcs⟩ := ho b o e
  exact ⟨b, o, x, e, hc, by simp [World.frozen?, hcs]⟩
theorem Rdb.set {W : World} {A : Option Addr} {n : Nat} (h : Rdb W A n) (B i : Nat) (y : UInt8) : Rdb (W.setCell ⟨B, i, none⟩ (.int .u8 (y.toNat : Int))) A n := fun j hj => by
  obtain ⟨b, o, x, e, hc, hf⟩ := h j hj
  by_cases he : (⟨B, i, none⟩ : Addr) = ⟨b, o + j, none⟩
  · exact ⟨b, o, y, e, by rw [he]; exact World.cell?_setCell_same W _ _ hc, by rw [World.frozen?_setCell]; exact hf⟩
  · exact ⟨b, o, x, e, by rw [World.cell?_setCell_other (h := he)]; exact hc, by rw [World.frozen?_setCell]; exact hf⟩
theorem Rdb.drew {W : World} {A : Option Addr} {n : Nat} (h : Rdb W A n) : Rdb W.drew A n := h
/-- 255 less a byte is a byte. -/
theorem byte_turn (x : UInt8) : ∃ y : UInt8, IntKind.u8.wrap (255 - (x.toNat : Int)) = (y.toNat : Int) ∧ 255 - (x.toNat : Int) = (y.toNat : Int) := by
  have hx := x.toNat_lt
  refine ⟨UInt8.ofNat (255 - x.toNat), ?_⟩
  have e : (UInt8.ofNat (255 - x.toNat)).toNat = 255 - x.toNat := by simp; omega
  rw [e, IntKind.wrap_u8]
  omega
end Go.Proofs.Ytjlfacmmokfleaa.Bt
