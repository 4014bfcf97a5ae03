/- What a page's calls answer, with the parts named. -/
import Derived.Test.YthcilmlaoddckaaPageDrop
import Derived.Test.YthcilmlaoddckaaPageSlots
namespace Go.Proofs.Ythcilmlaoddckaa.Pg
open Go.RowKit Go.Proofs.Ythcilmlaoddckaa.Mem Go.Proofs.Ythcilmlaoddckaa.Right
set_option linter.unusedVariables false

/-- A page that the call made, and that is one. -/
def Fresh (w w' : World) (g c : Nat) (S : List Sl) : Prop := Good w' (some ⟨g, 0, none⟩) c S ∧ w.heap.size ≤ g ∧ Below w.heap.size w w'
theorem made_fresh {w w' : World} {v : Value} {S : List Sl} (h : Made w.heap.size w v (pg S) w') (hS : Ok S) : ∃ g c, v = .slice (some ⟨g, 0, none⟩) 512 c ∧ Fresh w w' g c S := by
  obtain ⟨g, cap, ex, rfl, _, hB, _⟩ := made_blk h hS.fit.len (by decide)
  obtain ⟨A', c', ea, hb⟩ := made_bs h hS.fit.len
  injection ea with ea1 ea2 ea3
  subst ea1 ea3
  exact ⟨g, cap, rfl, ⟨hb, hS⟩, hB, h.2.1⟩
/-- The answer of a call that answers a page and an error. -/
def GotP (w : World) (x : Option (List Sl)) (err : Int) (e : Ending) (w' : World) : Prop :=
  match x with
  | none => e = .returned (.tuple #[.slice none 0 0, .int .i64 err]) ∧ Below w.heap.size w w'
  | some S => ∃ g c, e = .returned (.tuple #[.slice (some ⟨g, 0, none⟩) 512 c, .int .i64 0]) ∧ Fresh w w' g c S
theorem set_got (A A2 : Option Addr) (c m c2 : Nat) (S : List Sl) (z : Int) (d : List UInt8) (w : World) (h : Good w A c S) (hd : Bs w A2 m c2 d) (x : Option (List Sl)) (y : Int) (hx : setV S z d = (x, y)) :
    Calls Try.prog 32 #[.slice A 512 c, .int .i64 z, .slice A2 m c2] w (GotP w x y) := by
  refine (set_any A A2 c m c2 S z d w h hd).mono ?_
  rw [hx]
  intro e w' hh
  cases x with
  | none => exact hh
  | some S' =>
    obtain ⟨v, rfl, hm⟩ := hh
    obtain ⟨g, c', rfl, hf⟩ := made_fresh hm (set_ok (z := z) (d := d) h.2 (by rw [hx])).1
    exact ⟨g, c', rfl, hf⟩
theorem drop_got (A : Option Addr) (c : Nat) (S : List Sl) (z : Int) (w : World) (h : Good w A c S) (x : Option (List Sl)) (y : Int) (hx : dropV S z = (x, y)) :
    Calls Try.prog 55 #[.slice A 512 c, .int .i64 z] w (GotP w x y) := by
  refine (drop_any A c S z w h).mono ?_
  rw [hx]
  intro e w' hh
  cases x with
  | none => exact hh
  | some S' =>
    obtain ⟨v, rfl, hm⟩ := hh
    unfold dropV at hx
    split at hx
    · rename_i hf
      obtain ⟨d0, hk⟩ := full_dat hf.2
      injection hx with h1 h2
      injection h1 with h1
      subst h1
      obtain ⟨g, c', rfl, hfr⟩ := made_fresh hm (drp_ok h.2 hk)
      exact ⟨g, c', rfl, hfr⟩
    · cases hx
/-- The answer of Put: the page then, the slot, the error. -/
def putV (S : List Sl) (d : List UInt8) : Option (List Sl) × Int × Int :=
  if 255 < d.length then (none, 0, 3) else if roomN S < needN S d.length then (none, 0, 5) else (some (upd S (freeN S) d), freeN S, 0)
def PutP (w : World) (x : Option (List Sl)) (k err : Int) (e : Ending) (w' : World) : Prop :=
  match x with
  | none => e = .returned (.tuple #[.slice none 0 0, .int .i64 k, .int .i64 err]) ∧ Below w.heap.size w w'
  | some S => ∃ g c, e = .returned (.tuple #[.slice (some ⟨g, 0, none⟩) 512 c, .int .i64 k, .int .i64 0]) ∧ Fresh w w' g c S
theorem put_got (A A2 : Option Addr) (c m c2 : Nat) (S : List Sl) (d : List UInt8) (w : World) (h : Good w A c S) (hd : Bs w A2 m c2 d) (x : Option (List Sl)) (k y : Int) (hx : putV S d = (x, k, y)) :
    Calls Try.prog 67 #[.slice A 512 c, .slice A2 m c2] w (PutP w x k y) := by
  refine (put_any A A2 c m c2 S d w h hd).mono ?_
  intro e w' hh
  unfold PutR at hh
  unfold putV at hx
  by_cases h5 : 255 < d.length
  · rw [if_pos h5] at hh hx
    cases hx
    exact hh
  · rw [if_neg h5] at hh hx
    by_cases hr : roomN S < needN S d.length
    · rw [if_pos hr] at hh hx
      cases hx
      exact hh
    · rw [if_neg hr] at hh hx
      cases hx
      obtain ⟨v, rfl, hm⟩ := hh
      obtain ⟨g, c', rfl, hf⟩ := made_fresh hm (upd_ok h.2 h5 hr)
      exact ⟨g, c', rfl, hf⟩
theorem new_got (w : World) : Calls Try.prog 76 #[] w fun e w' => ∃ g c, e = .returned (.slice (some ⟨g, 0, none⟩) 512 c) ∧ Fresh w w' g c [] := by
  refine (new_any w).mono ?_
  rintro e w' ⟨v, rfl, hm⟩
  obtain ⟨g, c, rfl, hf⟩ := made_fresh hm Ok.nil
  exact ⟨g, c, rfl, hf⟩
/-- The answer of Get, with its parts. -/
def GotB (w : World) (x : Option (List UInt8)) (err : Int) (e : Ending) (w' : World) : Prop :=
  match x with
  | none => e = .returned (.tuple #[.slice none 0 0, .int .i64 err]) ∧ Below w.heap.size w w'
  | some l => ∃ A c, e = .returned (.tuple #[.slice A l.length c, .int .i64 0]) ∧ Bs w' A l.length c l ∧ Below w.heap.size w w'
theorem get_got (A : Option Addr) (c : Nat) (S : List Sl) (z : Int) (w : World) (h : Good w A c S) (x : Option (List UInt8)) (y : Int) (hx : getV S z = (x, y)) :
    Calls Try.prog 29 #[.slice A 512 c, .int .i64 z] w (GotB w x y) := by
  refine (get_any A c S z w h).mono ?_
  rw [hx]
  intro e w' hh
  cases x with
  | none => exact hh
  | some l =>
    obtain ⟨v, rfl, hm⟩ := hh
    obtain ⟨A', c', rfl, hb⟩ := hm.bs
    exact ⟨A', c', rfl, hb, hm.2.1⟩
/-- How much room there is behind data that was laid. -/
theorem room_upd {S : List Sl} {d : List UInt8} (h : Ok S) (hr : ¬ roomN S < needN S d.length) : roomN (upd S (freeN S) d) = roomN S - needN S d.length := by
  have hle := freeN_le S
  unfold upd needN roomN at *
  by_cases hk : freeN S = S.length
  · rw [if_pos hk] at hr ⊢
    rw [if_neg (by omega), List.length_append, tot_app]
    show 510 - 2 * (S.length + 1) - (tot S + (d.length + 0)) = _
    omega
  · have hlt : freeN S < S.length := by omega
    rw [if_neg hk] at hr ⊢
    rw [if_pos hlt]
    obtain ⟨S1, S2, e1, e2, e3⟩ := split_at (freeN_none hlt)
    have e4 : S.set (freeN S) (some d) = S1 ++ some d :: S2 := by
      conv => lhs; rw [e1]
      rw [set_mid S1 none (some d) S2 (by rw [e2, ← e1])]
    have htm : tot S = tot S1 + ln none + tot S2 := by rw [e1, tot_mid]
    have hl : S.length = S1.length + 1 + S2.length := by rw [e1]; simp; omega
    rw [e4, tot_mid, List.length_append, List.length_cons]
    have h0 : ln (none : Sl) = 0 := rfl
    have h1 : ln (some d) = d.length := rfl
    omega
end Go.Proofs.Ythcilmlaoddckaa.Pg
