/- The law's own example; what Put, Get and Next answer, with their slices' parts named. -/
import Derived.Test.YtledpmpfckeejaaKeyNext
import Derived.Test.YtledpmpfckeejaaKeyGet
import Derived.Test.YtledpmpfckeejaaKeyRefPut
namespace Go.Proofs.Ytledpmpfckeejaa.Key
open Go.RowKit Go.Proofs.Ytledpmpfckeejaa.Mem Go.Proofs.Ytledpmpfckeejaa.Right
set_option linter.unusedVariables false

/-- A slice that reads as these bytes. -/
def Bs (w : World) (A : Option Addr) (n c : Nat) (l : List UInt8) : Prop := Row w w.heap.size A (bys l) ∧ l.length = n ∧ n ≤ c ∧ c ≤ 9223372036854775807
theorem Bs.below {w w' : World} {A : Option Addr} {n c : Nat} {l : List UInt8} (h : Bs w A n c l) (hb : Below w.heap.size w w') : Bs w' A n c l :=
  ⟨(h.1.below hb (Nat.le_refl _)).more hb.size, h.2⟩
theorem Made.bs {B : Nat} {W w' : World} {v : Value} {l : List UInt8} (h : Made B W v l w') : ∃ A c, v = .slice A l.length c ∧ Bs w' A l.length c l := by
  obtain ⟨A, c, rfl, hA, hr⟩ := h.row
  refine ⟨A, c, rfl, hr, rfl, ?_⟩
  rcases h.1.2 with ⟨e, h0⟩ | ⟨g, cap, cur, e, _, _, h1, h2, _⟩
  · injection e with _ _ e3
    subst e3
    omega
  · injection e with _ _ e3
    subst e3
    unfold maxLen at h2
    omega
def PutG (w : World) (l : List UInt8) (n : Nat) (x : Int) (e : Ending) (w' : World) : Prop := ∃ A c, e = .returned (.tuple #[.slice A n c, .int .i64 x]) ∧ Below w.heap.size w w' ∧ Bs w' A n c l
theorem putG {w w' : World} {l : List UInt8} {n : Nat} {x : Int} {e : Ending} (hn : l.length = n) (h : PutPost w l x e w') : PutG w l n x e w' := by
  obtain ⟨v', rfl, hm⟩ := h
  obtain ⟨A, c, rfl, hb⟩ := hm.bs
  subst hn
  exact ⟨A, c, rfl, hm.2.1, hb⟩
theorem put_got (A : Option Addr) (n c : Nat) (vs : List Vl) (l : List UInt8) (x : Int) (m : Nat) (hl : putB vs = l) (hx : putE vs = x) (hm : l.length = m) (w : World) (hn : n ≤ vs.length) (hn' : vs.length ≤ n) (hN : n ≤ 9223372036854775807) (hz : Wide vs) (h : Vals w w.heap.size A vs) :
    Calls Try.prog 8 #[.slice A n c] w (PutG w l m x) :=
  (Put_any A n c vs w hn hn' hN hz h).mono fun _ _ h => putG hm (by rw [← hl, ← hx]; exact h)
theorem refPut_got (A : Option Addr) (n c : Nat) (vs : List Vl) (l : List UInt8) (x : Int) (m : Nat) (hl : putB vs = l) (hx : putE vs = x) (hm : l.length = m) (w : World) (hn : n ≤ vs.length) (hn' : vs.length ≤ n) (hN : n ≤ 9223372036854775807) (hz : Wide vs) (h : Vals w w.heap.size A vs) :
    Calls Try.prog 9 #[.slice A n c] w (PutG w l m x) :=
  (refPut_any A n c vs w hn hn' hN hz h).mono fun _ _ h => putG hm (by rw [← hl, ← hx]; exact h)
/-- A slice that reads as these values. -/
def Vs (w : World) (A : Option Addr) (n : Nat) (vs : List Vl) : Prop := Vals w w.heap.size A vs ∧ vs.length = n
theorem Vs.below {w w' : World} {A : Option Addr} {n : Nat} {vs : List Vl} (h : Vs w A n vs) (hb : Below w.heap.size w w') : Vs w' A n vs :=
  ⟨(h.1.below hb (Nat.le_refl _)).more hb.size, h.2⟩
def GetG (w : World) (vs : List Vl) (n : Nat) (x : Int) (e : Ending) (w' : World) : Prop := ∃ A c, e = .returned (.tuple #[.slice A n c, .int .i64 x]) ∧ Below w.heap.size w w' ∧ Vs w' A n vs
theorem get_got (A : Option Addr) (n c : Nat) (l : List UInt8) (vs : List Vl) (x : Int) (m : Nat) (hg : getV l = (vs, x)) (hm : vs.length = m) (w : World) (h : Bs w A n c l) :
    Calls Try.prog 11 #[.slice A n c] w (GetG w vs m x) := by
  obtain ⟨h1, h2, h3, h4⟩ := h
  refine (Get_any A n c l w (by omega) (by omega) h3 h4 h1).mono fun e w' ⟨v', he, hv⟩ => ?_
  rw [hg] at he hv
  obtain ⟨A', c', rfl, hr, hn⟩ := Vals.own hv.1
  subst hm
  exact ⟨A', c', he, hv.2, hr, rfl⟩
def NextG (w : World) (l : List UInt8) (n : Nat) (e : Ending) (w' : World) : Prop := ∃ A c, e = .returned (.slice A n c) ∧ Below w.heap.size w w' ∧ Bs w' A n c l
theorem next_got (A : Option Addr) (n c : Nat) (l r : List UInt8) (m : Nat) (hr : nextV l = r) (hm : r.length = m) (w : World) (hs : n ≤ 1000000) (h : Bs w A n c l) :
    Calls Try.prog 16 #[.slice A n c] w (NextG w r m) := by
  obtain ⟨h1, h2, h3, h4⟩ := h
  refine (next_any A n c l w (by omega) (by omega) h3 hs h1).mono fun e w' ⟨v', he, hv⟩ => ?_
  rw [hr] at hv
  obtain ⟨A', c', rfl, hb⟩ := hv.bs
  subst hm
  exact ⟨A', c', he, hv.2.1, hb⟩
theorem same_got (A C : Option Addr) (n m ca cb : Nat) (l r : List UInt8) (x : Bool) (hx : decide (l = r) = x) (w : World) (h1 : Bs w A n ca l) (h2 : Bs w C m cb r) :
    Calls Try.prog 10 #[.slice A n ca, .slice C m cb] w fun e w' => e = .returned (.bool x) ∧ Below w.heap.size w w' := by
  obtain ⟨a1, a2, a3, a4⟩ := h1
  obtain ⟨b1, b2, b3, b4⟩ := h2
  exact (same_any A C n m ca cb l r w (by omega) (by omega) (by omega) (by omega) (by omega) (by omega) a1 b1).mono fun _ _ ⟨a, b⟩ => ⟨by rw [a, hx], b⟩
theorem below_got (A C : Option Addr) (n m ca cb : Nat) (l r : List UInt8) (x : Bool) (hx : blt l r = x) (w : World) (h1 : Bs w A n ca l) (h2 : Bs w C m cb r) :
    Calls Try.prog 14 #[.slice A n ca, .slice C m cb] w fun e w' => e = .returned (.bool x) ∧ Below w.heap.size w w' := by
  obtain ⟨a1, a2, a3, a4⟩ := h1
  obtain ⟨b1, b2, b3, b4⟩ := h2
  exact (below_any A C n m ca cb l r w (by omega) (by omega) (by omega) (by omega) (by omega) (by omega) a1 b1).mono fun _ _ ⟨a, b⟩ => ⟨by rw [a, hx], b⟩
theorem begins_got (A C : Option Addr) (n m ca cb : Nat) (l r : List UInt8) (x : Bool) (hx : beg l r = x) (w : World) (h1 : Bs w A n ca l) (h2 : Bs w C m cb r) :
    Calls Try.prog 13 #[.slice A n ca, .slice C m cb] w fun e w' => e = .returned (.bool x) ∧ w = w' :=
  begins_any A C n m ca cb l r x hx w w.heap.size h1.2.1 h2.2.1 h1.2.2.1 h1.1 h2.1

def vW : Vl := ⟨1, 0, ⟨#[]⟩⟩
theorem vals_one (w : World) : Vals (w.alloc (.cells #[.int .i64 1, .int .i64 0, .string ⟨#[]⟩] 37)) (w.alloc (.cells #[.int .i64 1, .int .i64 0, .string ⟨#[]⟩] 37)).heap.size (some ⟨w.heap.size, 0, none⟩) [vW] := by
  intro j v hj
  match j, hj with
  | 0, hj =>
    simp at hj
    subst hj
    obtain ⟨c0, c1, c2⟩ := (Box.made w 1 0 ⟨#[]⟩).cells
    exact ⟨w.heap.size, 0, rfl, by simp, c0, c1, c2⟩
  | j + 1, hj => simp at hj
theorem put_works (w : World) : Calls Try.prog 8 #[.slice (some ⟨w.heap.size, 0, none⟩) 1 1] (w.alloc (.cells #[.int .i64 1, .int .i64 0, .string ⟨#[]⟩] 37))
    (PutG (w.alloc (.cells #[.int .i64 1, .int .i64 0, .string ⟨#[]⟩] 37)) [2, 128, 0, 0, 0, 0, 0, 0, 0] 9 0) :=
  put_got _ 1 1 [vW] _ _ _ (by decide) (by decide) rfl _ (by decide) (by decide) (by decide) (fun v hv => by simp at hv; subst hv; exact ⟨fits_small (.inl rfl), by decide⟩) (vals_one w)
theorem get_works (A : Option Addr) (c : Nat) (w : World) (h : Bs w A 9 c [2, 128, 0, 0, 0, 0, 0, 0, 0]) : Calls Try.prog 11 #[.slice A 9 c] w (GetG w [vW] 1 0) :=
  get_got A 9 c _ _ _ _ (by
    have := getV_code (vs := [vW]) (fun v hv => by simp at hv; subst hv; exact ⟨by decide, fits_small (.inl rfl)⟩) (by decide)
    rwa [show code [vW] = [2, 128, 0, 0, 0, 0, 0, 0, 0] by decide] at this) rfl w h
theorem works_cells {w : World} {A : Option Addr} {c : Nat} (h : Bs w A 9 c [2, 128, 0, 0, 0, 0, 0, 0, 0]) : ∃ g o, A = some ⟨g, o, none⟩ ∧ w.cell? ⟨g, o, none⟩ = some (.int .u8 2) ∧ w.cell? ⟨g, o + 1, none⟩ = some (.int .u8 128) := by
  obtain ⟨g, o, e, _, c0⟩ := h.1 0 (.int .u8 2) rfl
  obtain ⟨g', o', e', _, c1⟩ := h.1 1 (.int .u8 128) rfl
  rw [e] at e'
  injection e' with e'
  injection e' with e1 e2
  subst e1 e2
  exact ⟨g, o, e, c0, c1⟩
theorem works_vals {w : World} {A : Option Addr} (h : Vs w A 1 [vW]) : ∃ g o, A = some ⟨g, o, none⟩ ∧ w.cell? ⟨g, o, none⟩ = some (.int .i64 1) ∧ w.cell? ⟨g, o + 1, none⟩ = some (.int .i64 0) ∧ w.cell? ⟨g, o + 2, none⟩ = some (.string ⟨#[]⟩) := by
  obtain ⟨g, o, e, _, c0, c1, c2⟩ := h.1 0 vW rfl
  rw [Nat.zero_mul, Nat.add_zero] at c0 c1 c2
  exact ⟨g, o, e, c0, c1, c2⟩
set_option maxHeartbeats 1000000 in
theorem works_any (w : World) : Calls Try.prog 7 #[] w fun e w' => e = .returned (.bool true) ∧ Below w.heap.size w w' := by
  go_enter Try.func7, Try.ntmps7
  go_wp2_with (first | (go_at_call 8; (with_reducible refine (put_works _).mono ?_); rintro e w1 ⟨A1, c1, rfl, hb1, hs1⟩; have HS1 := Lib.hid hs1; have HB1 := Lib.hid (on (al (Below.refl w.heap.size w) _) hb1); clear hs1 hb1) | (go_at_call 11; (with_reducible refine (get_works A1 c1 w1 HS1.out).mono ?_); rintro e w2 ⟨A2, c2, rfl, hb2, hv2⟩; have HB2 := Lib.hid (on HB1.out hb2); obtain ⟨g1, o1, rfl, y0, y1⟩ := works_cells (HS1.out.below hb2); obtain ⟨g2, o2, rfl, z0, z1, z2⟩ := works_vals hv2; clear hb2 hv2))
  go_ret
  exact ⟨rfl, HB2.out⟩
end Go.Proofs.Ytledpmpfckeejaa.Key
