/- A page's slots one by one; what its calls' answers tell; blocks of cells as lists. -/
import Derived.Test.YthcilmlaoddckaaPageGot
import Derived.Test.YthcilmlaoddckaaRefBytes
namespace Go.Proofs.Ythcilmlaoddckaa.Pg
open Go.RowKit Go.Proofs.Ythcilmlaoddckaa.Mem Go.Proofs.Ythcilmlaoddckaa.Right
set_option linter.unusedVariables false

/-- The slot at a place; behind the last one there are none. -/
def sl (S : List Sl) (j : Nat) : Sl := (S[j]?).getD none
theorem full_sl (S : List Sl) (j : Nat) : full S j = (sl S j).isSome := by
  unfold full sl
  cases h : S[j]? with
  | none => rfl
  | some s => cases s <;> rfl
theorem sl_some {S : List Sl} {j : Nat} {d : List UInt8} (h : sl S j = some d) : S[j]? = some (some d) := by
  unfold sl at h
  cases hs : S[j]? with
  | none => rw [hs] at h; cases h
  | some s => rw [hs] at h; simp at h; rw [h]
theorem sl_none_ge {S : List Sl} {j : Nat} (h : S.length ≤ j) : sl S j = none := by unfold sl; rw [List.getElem?_eq_none h]; rfl
theorem sl_set_same {S : List Sl} {k : Nat} {x : Sl} (h : k < S.length) : sl (S.set k x) k = x := by unfold sl; rw [List.getElem?_set_self h]; rfl
theorem sl_set_other {S : List Sl} {k j : Nat} {x : Sl} (h : j ≠ k) : sl (S.set k x) j = sl S j := by unfold sl; rw [List.getElem?_set_ne (fun e => h e.symm)]
theorem lst_none : ∀ {S : List Sl} {j : Nat}, lst S ≤ j → sl S j = none
  | [], j, _ => rfl
  | s :: S, 0, h => by
    unfold lst at h
    split at h
    · split at h
      · omega
      · cases s with
        | none => rfl
        | some d => rename_i h2; exact absurd rfl h2
    · omega
  | s :: S, j + 1, h => by
    show sl S j = none
    apply lst_none
    unfold lst at h
    split at h
    · omega
    · omega
theorem sl_take {S : List Sl} (j : Nat) : sl (S.take (lst S)) j = sl S j := by
  rcases Nat.lt_or_ge j (lst S) with h | h
  · unfold sl; rw [List.getElem?_take, if_pos h]
  · rw [lst_none h]
    exact sl_none_ge (by rw [List.length_take]; omega)
theorem sl_drp_same {S : List Sl} {k : Nat} (h : k < S.length) : sl (drp S k) k = none := by unfold drp; rw [sl_take, sl_set_same h]
theorem sl_drp_other {S : List Sl} {k j : Nat} (h : j ≠ k) : sl (drp S k) j = sl S j := by unfold drp; rw [sl_take, sl_set_other h]
theorem sl_upd_same {S : List Sl} {k : Nat} {d : List UInt8} (h : k ≤ S.length) : sl (upd S k d) k = some d := by
  unfold upd
  split
  · rename_i h2; exact sl_set_same h2
  · have e : k = S.length := by omega
    subst e
    unfold sl; simp
theorem sl_upd_other {S : List Sl} {k j : Nat} {d : List UInt8} (h : k ≤ S.length) (hj : j ≠ k) : sl (upd S k d) j = sl S j := by
  unfold upd
  split
  · exact sl_set_other hj
  · have e : k = S.length := by omega
    subst e
    unfold sl
    rcases Nat.lt_or_ge j S.length with h2 | h2
    · rw [List.getElem?_append_left h2]
    · rw [List.getElem?_append_right h2, List.getElem?_eq_none h2]
      have : j - S.length ≠ 0 := by omega
      rw [List.getElem?_eq_none (by simp; omega)]
/-- Block B holds these cells, of type t. -/
def CelL (W : World) (B : Nat) (t : TypeId) (l : List Value) : Prop := Cel W B t l.toArray
theorem CelL.at_ {W : World} {B : Nat} {t : TypeId} {l : List Value} (h : CelL W B t l) (i : Nat) : W.cell? ⟨B, i, none⟩ = l[i]? := by
  have := Cel.at_ h i
  rwa [List.getElem?_toArray] at this
theorem CelL.open_ {W : World} {B : Nat} {t : TypeId} {l : List Value} (h : CelL W B t l) (i : Nat) : W.frozen? ⟨B, i, none⟩ = false := Cel.open_ h i
theorem CelL.set {W : World} {B : Nat} {t : TypeId} {l : List Value} (h : CelL W B t l) (i : Nat) (v : Value) : CelL (W.setCell ⟨B, i, none⟩ v) B t (l.set i v) := by
  have := Cel.set h i v
  rwa [List.setIfInBounds_toArray] at this
theorem CelL.other {W : World} {B b : Nat} {t : TypeId} {l : List Value} (h : CelL W B t l) (hb : b ≠ B) (i : Nat) (v : Value) : CelL (W.setCell ⟨b, i, none⟩ v) B t l := Cel.other h hb i v
theorem CelL.below {W W' : World} {B : Nat} {t : TypeId} {l : List Value} (h : CelL W B t l) (hb : Below W.heap.size W W') : CelL W' B t l := Cel.below h hb
theorem row_blk {w w' : World} {B B' b o : Nat} {us : List Value} (h : Row w B (some ⟨b, o, none⟩) us) (hb : w'.heap[b]? = w.heap[b]?) (hB : B ≤ B') : Row w' B' (some ⟨b, o, none⟩) us := fun k u hu => by
  obtain ⟨b', o', e, hlt, hc⟩ := h k u hu
  injection e with e
  injection e with e1 e2
  subst e1 e2
  exact ⟨b, o, rfl, by omega, (World.cell?_of_block (w := w) hb).trans hc⟩
theorem Good.set {w : World} {g c b i : Nat} {S : List Sl} {v : Value} (h : Good w (some ⟨g, 0, none⟩) c S) (hb : b ≠ g) : Good (w.setCell ⟨b, i, none⟩ v) (some ⟨g, 0, none⟩) c S := by
  refine ⟨⟨row_blk h.1.1 ?_ (by simp [World.setCell]), h.1.2⟩, h.2⟩
  show (w.heap.modify b _)[g]? = _
  rw [Array.getElem?_modify, if_neg hb]
theorem good_ok {w : World} {A : Option Addr} {c : Nat} {S : List Sl} (h : Good w A c S) : Ok S := h.2
theorem good_bs {w : World} {A : Option Addr} {c : Nat} {S : List Sl} (h : Good w A c S) : Bs w A 512 c (pg S) := h.1
theorem bne_same (y : Int) : (y != y) = false := by simp
theorem putV_ok {S S' : List Sl} {d : List UInt8} {ks y : Int} (h : Ok S) (hx : putV S d = (some S', ks, y)) : Ok S' ∧ S' = upd S (freeN S) d ∧ ks = (freeN S : Nat) ∧ y = 0 ∧ freeN S < 255 := by
  unfold putV at hx
  by_cases h5 : 255 < d.length
  · rw [if_pos h5] at hx; cases hx
  · rw [if_neg h5] at hx
    by_cases hr : roomN S < needN S d.length
    · rw [if_pos hr] at hx; cases hx
    · rw [if_neg hr] at hx
      cases hx
      have hok := upd_ok h h5 hr
      refine ⟨hok, rfl, rfl, rfl, ?_⟩
      have hle := freeN_le S
      have h1 := hok.fit.room
      have h2 := h.fit.room
      unfold upd at h1
      split at h1
      · omega
      · rw [List.length_append] at h1
        simp at h1
        omega
theorem putV_no {S : List Sl} {d : List UInt8} {ks y : Int} (hx : putV S d = (none, ks, y)) : ks = 0 ∧ (y = 3 ∨ y = 5) := by
  unfold putV at hx
  by_cases h5 : 255 < d.length
  · rw [if_pos h5] at hx; cases hx; exact ⟨rfl, .inl rfl⟩
  · rw [if_neg h5] at hx
    by_cases hr : roomN S < needN S d.length
    · rw [if_pos hr] at hx; cases hx; exact ⟨rfl, .inr rfl⟩
    · rw [if_neg hr] at hx; cases hx
theorem setV_no {S : List Sl} {z : Int} {d : List UInt8} {y : Int} (hx : setV S z d = (none, y)) : y = 3 ∨ y = 4 ∨ y = 5 := by
  unfold setV at hx
  split at hx
  · cases hx; exact .inl rfl
  · split at hx
    · split at hx
      · cases hx; exact .inr (.inr rfl)
      · cases hx
    · cases hx; exact .inr (.inl rfl)
theorem setV_yes {S S' : List Sl} {z : Int} {d : List UInt8} {y : Int} (h : Ok S) (hx : setV S z d = (some S', y)) : Ok S' ∧ y = 0 ∧ ∃ f : Nat, z = f ∧ f < 255 ∧ f < S.length ∧ S' = S.set f (some d) ∧ (sl S f).isSome = true := by
  obtain ⟨h1, h2, h3, h4⟩ := set_ok (z := z) (d := d) h (by rw [hx])
  refine ⟨h1, ?_, z.toNat, by omega, ?_, ?_, h2, by rw [← full_sl]; exact h4⟩
  · unfold setV at hx
    split at hx
    · cases hx
    · split at hx
      · split at hx
        · cases hx
        · cases hx; rfl
      · cases hx
  · obtain ⟨d0, hd⟩ := full_dat h4
    have := (List.getElem?_eq_some_iff.1 hd).1
    have h5 := h.fit.room
    rcases Nat.lt_or_ge z.toNat 255 with h6 | h6
    · exact h6
    · have hz : S.length = 255 ∧ tot S = 0 := by omega
      omega
  · obtain ⟨d0, hd⟩ := full_dat h4
    exact (List.getElem?_eq_some_iff.1 hd).1
theorem dropV_no {S : List Sl} {z : Int} {y : Int} (hx : dropV S z = (none, y)) : y = 4 := by
  unfold dropV at hx
  split at hx
  · cases hx
  · cases hx; rfl
theorem dropV_yes {S S' : List Sl} {z : Int} {y : Int} (h : Ok S) (hx : dropV S z = (some S', y)) : Ok S' ∧ y = 0 ∧ ∃ f : Nat, z = f ∧ f < 255 ∧ f < S.length ∧ S' = drp S f ∧ (sl S f).isSome = true := by
  unfold dropV at hx
  split at hx
  · rename_i hf
    obtain ⟨d0, hd⟩ := full_dat hf.2
    have h3 := (List.getElem?_eq_some_iff.1 hd).1
    have h5 := h.fit.room
    cases hx
    exact ⟨drp_ok h hd, rfl, z.toNat, by omega, by omega, h3, rfl, by rw [← full_sl]; exact hf.2⟩
  · cases hx
end Go.Proofs.Ythcilmlaoddckaa.Pg
