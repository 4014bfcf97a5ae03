/- The lists of columns that constraints and indexes have, and what expressions name: the pro -/
import Derived.Test.YtcblddpapehdeaaDoorM24
namespace Go.Proofs.YtcblddpapehdeaaDoor.Tk
open Go.RowKit Go.Proofs.YtcblddpapehdeaaDoor.Mem Go.Proofs.YtcblddpapehdeaaDoor.Ep Go.Proofs.YtcblddpapehdeaaDoor.Sm Go.ChangeShapes Go.WideShapes
set_option linter.unusedVariables false
/-- A list of texts that lies elsewhere: it is older, or of texts alone. -/
def RowQ (B : Nat) (w : World) (P : Option Addr) (us : List Value) : Prop := ∀ k u, us[k]? = some u → ∃ b o, P = some ⟨b, o, none⟩ ∧ (b < B ∨ ∃ cs, w.heap[b]? = some (.cells cs tS (0, 0))) ∧ b < w.heap.size ∧ w.cell? ⟨b, o + k, none⟩ = some u
section
variable {V w w' : World} {B : Nat} {P : Option Addr} {us : List Value}
theorem own_blk {s n : Nat} {e : TypeId} {v : Value} {xs : List Value} (h : w.ownsRow B e s v n xs) {k : Nat} (hk : v.ownBlock = some k) : ∃ cs, w.heap[k]? = some (.cells cs e (0, 0)) := by
  rcases h.2 with ⟨rfl, _⟩ | ⟨g, cap, cur, rfl, _, hb, _⟩
  · simp [Value.ownBlock] at hk
  · obtain rfl : g = k := by simpa [Value.ownBlock] using hk
    exact ⟨cur, hb⟩
theorem RowQ.below (h : RowQ B w P us) (hb : Below w.heap.size w w') : RowQ B w' P us := fun k u hu => by
  obtain ⟨b, o, h1, h2, h3, h4⟩ := h k u hu
  exact ⟨b, o, h1, h2.imp id (fun ⟨cs, g⟩ => ⟨cs, (hb.block b h3).trans g⟩), Nat.lt_of_lt_of_le h3 hb.size, (hb.cell (p := ⟨b, o + k, none⟩) h3).trans h4⟩
theorem RowQ.old (h : Row V B P us) (hB : B ≤ V.heap.size) (hb : Below V.heap.size V w) : RowQ B w P us := fun k u hu => by
  obtain ⟨b, o, h1, h2, h3⟩ := h k u hu
  exact ⟨b, o, h1, .inl h2, Nat.lt_of_lt_of_le (Nat.lt_of_lt_of_le h2 hB) hb.size, (hb.cell (p := ⟨b, o + k, none⟩) (Nat.lt_of_lt_of_le h2 hB)).trans h3⟩
theorem RowQ.new {L : List Bs} {n c : Nat} {X : World} (h : TS X (.slice P n c) L w) : RowQ B w P (L.map str) := fun k u hu => by
  obtain ⟨b, o, h1, h2, h3⟩ := h.row k u hu
  obtain ⟨cs, hcs⟩ := own_blk h.own (k := b) (by
    rcases h.own.2 with ⟨hv, h0⟩ | ⟨g, cap, cur, hv, _⟩
    · injection hv with e1 _ _
      rw [h1] at e1
      cases e1
    · rw [hv]
      injection hv with e1 _ _
      rw [h1] at e1
      injection e1 with e1
      injection e1 with e1 _
      rw [e1]; rfl)
  exact ⟨b, o, h1, .inr ⟨cs, hcs⟩, h2, h3⟩
theorem RowQ.row (h : RowQ B w P us) : Row w w.heap.size P us := fun k u hu => by
  obtain ⟨b, o, h1, h2, h3, h4⟩ := h k u hu
  exact ⟨b, o, h1, h3, h4⟩
theorem RowQ.grown {v : Value} {n : Nat} {xs : List Value} (h : RowQ B w P us) (hB : B ≤ V.heap.size) (hv : w.ownsRow V.heap.size tSl 1 v n xs) (hg : w.grownBy w' v.ownBlock) : RowQ B w' P us := fun k u hu => by
  obtain ⟨b, o, h1, h2, h3, h4⟩ := h k u hu
  have hne : some b ≠ v.ownBlock := fun e => by
    rcases h2 with h2 | ⟨cs, h2⟩
    · have := (hv.lt b e.symm).1; omega
    · obtain ⟨cs', h5⟩ := own_blk hv e.symm
      rw [h2] at h5
      injection h5 with h5
      injection h5 with _ h6
      exact absurd h6 (by decide)
  have hb := hg.block b h3 hne
  exact ⟨b, o, h1, h2.imp id (fun ⟨cs, g⟩ => ⟨cs, hb.trans g⟩), Nat.lt_of_lt_of_le h3 hg.size, (World.cell?_of_block (a := ⟨b, o + k, none⟩) hb).trans h4⟩
end
/-- A list of lists that a call has gathered. -/
structure TNd (B : Nat) (w : World) (us : List Value) (parts : List (List Bs)) : Prop where
  len : us.length = parts.length
  at_ : ∀ (k : Nat) (u : Value) (l : List Bs), us[k]? = some u → parts[k]? = some l → ∃ P c, u = .slice P l.length c ∧ (P = none → c = 0) ∧ RowQ B w P (l.map str)
structure TN (B : Nat) (V : World) (v : Value) (parts : List (List Bs)) (w : World) : Prop where
  hB : B ≤ V.heap.size
  ex : ∃ us, w.ownsRow V.heap.size tSl 1 v parts.length us ∧ TNd B w us parts
  low : Below V.heap.size V w
section
variable {B : Nat} {V w w' : World} {v : Value} {parts : List (List Bs)}
noncomputable def TN.us (h : TN B V v parts w) : List Value := h.ex.choose
theorem TN.own (h : TN B V v parts w) : w.ownsRow V.heap.size tSl 1 v parts.length h.us := h.ex.choose_spec.1
theorem TN.dat (h : TN B V v parts w) : TNd B w h.us parts := h.ex.choose_spec.2
theorem tn_none (hB : B ≤ V.heap.size) (h : Below V.heap.size V w) : TN B V (.slice none 0 0) [] w := ⟨hB, ⟨[], ⟨rfl, .inl ⟨rfl, rfl⟩⟩, rfl, fun k u l h => by simp at h⟩, h⟩
theorem TN.call (h : TN B V v parts w) (hb : Below w.heap.size w w') : TN B V v parts w' :=
  ⟨h.hB, ⟨h.us, h.own.kept (grown_below (r := none) hb) (by cases hv : v.ownBlock with | none => exact .inl rfl | some k => exact .inr (by simp)), h.dat.len, fun k u l hu hl => by
    obtain ⟨P, c, h1, h2, h3⟩ := h.dat.at_ k u l hu hl
    exact ⟨P, c, h1, h2, h3.below hb⟩⟩, h.low.trans (hb.mono h.low.size)⟩
theorem TN.more {v' : Value} {l : List Bs} {P : Option Addr} {n c : Nat} {o : Obj} (h : TN B V v parts w) (hl : n = l.length) (hP : P = none → c = 0) (hr : RowQ B w P (l.map str)) (g1 : w'.ownsRow V.heap.size tSl 1 v' (parts.length + 1) (h.us ++ [.slice P n c])) (g2 : (w.alloc o).grownBy w' v.ownBlock) : TN B V v' (parts ++ [l]) w' := by
  have ha := al (Below.refl w.heap.size w) o
  have hown := h.own.alloc o
  have hb1 := al h.low o
  refine ⟨h.hB, ⟨h.us ++ [.slice P n c], by rw [List.length_append]; exact g1, by rw [List.length_append, List.length_append, h.dat.len]; rfl, fun k u m hu hm => ?_⟩, hb1.trans ⟨g2.os, g2.tape, g2.output, g2.size, fun j hj => g2.block j (by have := hb1.size; omega) (fun e => by have := (h.own.lt j e.symm).1; omega)⟩⟩
  by_cases hk : k < parts.length
  · rw [List.getElem?_append_left (by rw [h.dat.len]; exact hk)] at hu
    rw [List.getElem?_append_left hk] at hm
    obtain ⟨P, c, h1, h2, h3⟩ := h.dat.at_ k u m hu hm
    exact ⟨P, c, h1, h2, (h3.below ha).grown h.hB hown g2⟩
  · have hk2 : k = parts.length := by
      have := (List.getElem?_eq_some_iff.1 hm).1
      rw [List.length_append] at this
      simp at this
      omega
    subst hk2
    rw [← h.dat.len, List.getElem?_concat_length] at hu
    rw [List.getElem?_concat_length] at hm
    cases hu
    cases hm
    exact ⟨P, c, by rw [hl], hP, (hr.below ha).grown h.hB hown g2⟩
theorem TN.own_n {n : Nat} (h : TN B V v parts w) (e : parts.length = n) : w.ownsRow V.heap.size tSl 1 v n h.us := e ▸ h.own
theorem TN.more_n {v' : Value} {l : List Bs} {P : Option Addr} {m n c : Nat} {o : Obj} (h : TN B V v parts w) (e : parts.length = m) (hl : n = l.length) (hP : P = none → c = 0) (hr : RowQ B w P (l.map str)) (g1 : w'.ownsRow V.heap.size tSl 1 v' (m + 1) (h.us ++ [.slice P n c])) (g2 : (w.alloc o).grownBy w' v.ownBlock) : TN B V v' (parts ++ [l]) w' := h.more hl hP hr (by rw [e]; exact g1) g2
theorem TN.rows (h : TN B V v parts w) : ∃ A c, v = .slice A parts.length c ∧ RowR w w.heap.size A parts := by
  have ho := h.own
  obtain ⟨A, c, rfl⟩ : ∃ A c, v = .slice A parts.length c := by
    rcases ho.2 with ⟨hv, h0⟩ | ⟨g, cap, cur, hv, _⟩
    · exact ⟨none, 0, by rw [hv, h0]⟩
    · exact ⟨_, _, hv⟩
  refine ⟨A, c, rfl, fun j l hl => ?_⟩
  have hj := (List.getElem?_eq_some_iff.1 hl).1
  have hu : h.us[j]? = some (h.us[j]'(by rw [h.dat.len]; exact hj)) := List.getElem?_eq_getElem _
  obtain ⟨P, d, hp, hP, hr⟩ := h.dat.at_ j _ l hu hl
  rw [hp] at hu
  obtain ⟨b, o, g1, g2, g3⟩ := Row.own ho j _ hu
  exact ⟨b, o, P, d, g1, g2, g3, hP, hr.row⟩
theorem TN.more_box {o : Obj} {k : Nat} {t : TypeId} {cs : Array Value} (h : TN B V v parts w) (hc : Cel w k t cs) (ht : t ≠ tSl) (g2 : (w.alloc o).grownBy w' v.ownBlock) : Cel w' k t cs := by
  refine cel_grown (hc.alloc o) g2 fun e => ?_
  obtain ⟨cs', h5⟩ := own_blk h.own e.symm
  have := hc.symm.trans h5
  injection this with e2
  injection e2 with _ e3
  exact ht e3
end
/-- What uses leaves. -/
def UseD (parts : List (List Bs)) (w : World) (e : Ending) (w' : World) : Prop := ∃ A c, e = .returned (.slice A parts.length c) ∧ TN w.heap.size w (.slice A parts.length c) parts w'
theorem UseD.of {V w w' : World} {parts : List (List Bs)} {v : Value} (h : TN w.heap.size V v parts w') (hb : Below w.heap.size w V) : UseD parts w (.returned v) w' := by
  obtain ⟨A, c, rfl, -⟩ := h.rows
  exact ⟨A, c, rfl, Nat.le_refl _, ⟨h.us, own_less h.own hb.size, h.dat⟩, hb.trans (h.low.mono hb.size)⟩
def useC (c : Cn) : List (List Bs) := c.cols :: (if c.kind = 2 then [namesE c.chk] else [])
def usesL (x : Tb) : List (List Bs) := x.cons.flatMap useC ++ x.idx.map (·.2)
end Go.Proofs.YtcblddpapehdeaaDoor.Tk
