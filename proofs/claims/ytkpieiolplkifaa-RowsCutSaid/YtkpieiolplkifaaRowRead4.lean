/- What a reader's value reads. -/
import Derived.Test.YtkpieiolplkifaaRowRead3
import Derived.Test.YtkpieiolplkifaaRowWrong
namespace Go.Proofs.Ytkpieiolplkifaa.Rw
open Go.RowKit Go.Proofs.Ytkpieiolplkifaa.Mem Go.Proofs.Ytkpieiolplkifaa.Right
set_option linter.unusedVariables false

theorem results_cell {fn : Func} {p : Tmp} {ty : TypeId} (h : fn.results = #[.cell p ty]) (tmps : Array Value) (P : Program) (w : World) :
    (results fn tmps).run P w = ((asAddr (tmps.getD p undef)).run P w).andThen fun a w₁ => (loadVar ty a).run P w₁ := by
  simp only [results, h]
  simp [Sem.run_bind, Result.andThen]
theorem Rd.set {B : Nat} {w : World} {g b i : Nat} {σ : Got Unit} {x : Value} (h : Rd B w g σ) (hb : g < b) : Rd B (w.setCell ⟨b, i, none⟩ x) g σ := by
  obtain ⟨hB, A, n, c, e, hh, hn, hc, hs⟩ := h
  refine ⟨hB, A, n, c, e, ?_, hn, hc, ?_⟩
  · show (w.heap.modify b _)[g]? = _
    rw [Array.getElem?_modify, if_neg (by omega)]
    exact hh
  · rcases hs with ⟨l, e1, e2, hr, hl⟩ | h
    · exact .inl ⟨l, e1, e2, row_set hr (by omega), hl⟩
    · exact .inr h
theorem grown_far {w w1 : World} {r : Option Nat} {b i : Nat} {x : Value} (h : w.grownBy w1 r) (hb : w.heap.size ≤ b) : w.grownBy (w1.setCell ⟨b, i, none⟩ x) r := by
  refine ⟨h.os, h.tape, h.output, by simp [World.setCell]; exact h.size, fun k hk hr => ?_⟩
  show (w1.heap.modify b _)[k]? = _
  rw [Array.getElem?_modify, if_neg (by omega)]
  exact h.block k hk hr
theorem Moved.set {B : Nat} {w w1 : World} {g b i : Nat} {σ : Got Unit} {x : Value} (h : Moved B w g σ w1) (hg : g < w.heap.size) (hb : w.heap.size ≤ b) : Moved B w g σ (w1.setCell ⟨b, i, none⟩ x) := ⟨h.1.set (by omega), grown_far h.2 hb⟩
theorem Moved.below {B : Nat} {w w1 w2 : World} {g : Nat} {σ : Got Unit} (h : Moved B w g σ w1) (hb : Below w1.heap.size w1 w2) : Moved B w g σ w2 := ⟨h.1.below hb, grown_trans h.2 (grown_below hb)⟩
theorem box_open {w : World} {g : Nat} {k n : Int} {s : ByteArray} (h : Box w g k n s) : w.frozen? ⟨g, 0, none⟩ = false ∧ w.frozen? ⟨g, 1, none⟩ = false ∧ w.frozen? ⟨g, 2, none⟩ = false := by
  unfold Box at h
  refine ⟨?_, ?_, ?_⟩ <;> simp [World.frozen?, h]
theorem box_set1 {w : World} {g : Nat} {k n m : Int} {s : ByteArray} (h : Box w g k n s) : Box (w.setCell ⟨g, 1, none⟩ (.int .i64 m)) g k m s := by
  unfold Box at h ⊢
  show (w.heap.modify g _)[g]? = _
  rw [Array.getElem?_modify, h]
  simp
theorem box_set2 {w : World} {g : Nat} {k n : Int} {s t : ByteArray} (h : Box w g k n s) : Box (w.setCell ⟨g, 2, none⟩ (.string t)) g k n t := by
  unfold Box at h ⊢
  show (w.heap.modify g _)[g]? = _
  rw [Array.getElem?_modify, h]
  simp
theorem box_apart {w : World} {g b i : Nat} {k n : Int} {s : ByteArray} {x : Value} (h : Box w g k n s) (hb : ¬ b = g) : Box (w.setCell ⟨b, i, none⟩ x) g k n s := by
  unfold Box at h ⊢
  show (w.heap.modify b _)[g]? = _
  rw [Array.getElem?_modify, if_neg hb]
  exact h
theorem box_moved {B : Nat} {w w' : World} {g b : Nat} {k n : Int} {s : ByteArray} {σ : Got Unit} (h : Box w b k n s) (hm : Moved B w g σ w') (hb : ¬ b = g) : Box w' b k n s := h.grown hm.2 (by intro e; injection e with e; exact hb e.symm)
theorem wrong_is (k n : Int) (s : ByteArray) (b : Bool) (hb : Vl.ok ⟨k, n, s⟩ = b) (w : World) (hs : s.size ≤ maxLen) :
    Calls Try.prog 25 #[.agg #[.int .i64 k, .int .i64 n, .string s]] w fun e w' => e = .returned (.bool (!b)) ∧ Below w.heap.size w w' := wrong_any ⟨k, n, s⟩ b hb w hs
/-- What reading a value leaves. -/
def ValPost (B : Nat) (w : World) (g : Nat) (p : Got Vl) (e : Ending) (w' : World) : Prop :=
  ∃ v : Vl, e = .returned (.agg #[.int .i64 v.k, .int .i64 v.n, .string v.s]) ∧ Moved B w g p.after w' ∧ (∀ a r, p = .ok a r → v = a)
theorem two_box (w : World) (k : Int) (g : Nat) (B : Nat) (σ : Got Unit) (h : Rd B w g σ) :
    Moved B w g σ ((w.alloc (.cells #[.int .i64 0, .int .i64 0, .string ⟨#[]⟩] 43)).alloc (.cells #[.int .i64 k, .int .i64 0, .string ⟨#[]⟩] 43)) ∧
    Box ((w.alloc (.cells #[.int .i64 0, .int .i64 0, .string ⟨#[]⟩] 43)).alloc (.cells #[.int .i64 k, .int .i64 0, .string ⟨#[]⟩] 43)) w.heap.size 0 0 ⟨#[]⟩ ∧
    Box ((w.alloc (.cells #[.int .i64 0, .int .i64 0, .string ⟨#[]⟩] 43)).alloc (.cells #[.int .i64 k, .int .i64 0, .string ⟨#[]⟩] 43)) (w.heap.size + 1) k 0 ⟨#[]⟩ := by
  refine ⟨(Moved.stay h).below (al (al (Below.refl _ _) _) _), (Box.made w 0 0 ⟨#[]⟩).alloc _, ?_⟩
  have := Box.made (w.alloc (.cells #[.int .i64 0, .int .i64 0, .string ⟨#[]⟩] 43)) k 0 ⟨#[]⟩
  rwa [size1] at this
theorem rdV_0 (l : List UInt8) : rdV 0 l = .ok ⟨0, 0, ⟨#[]⟩⟩ l := rfl
theorem rdV_1 (l : List UInt8) : rdV 1 l = (rdS 0 l).then fun n r => .ok ⟨1, zb n, ⟨#[]⟩⟩ r := rfl
theorem rdT_L (l : List UInt8) : rdT l = (rdL l).then fun s r => if pl s = true then .ok ⟨3, 0, ⟨s.toArray⟩⟩ r else .bad 12 := by
  unfold rdT rdL rdB
  cases l with
  | nil => rfl
  | cons c r =>
    simp only [then_ok]
    by_cases h1 : 32 < c.toNat
    · rw [if_pos h1, if_pos h1]; rfl
    · rw [if_neg h1, if_neg h1]
      unfold rdTk
      by_cases h2 : r.length < c.toNat
      · rw [if_pos h2, if_pos h2]; rfl
      · rw [if_neg h2, if_neg h2]; rfl
theorem then_rdV1 (σ : Got Unit) : (σ.then fun _ l => rdV 1 l) = (σ.then fun _ l => rdS 0 l).then fun n r => .ok ⟨1, zb n, ⟨#[]⟩⟩ r := by rw [then_assoc]; rfl
theorem then_rdV2 (σ : Got Unit) : (σ.then fun _ l => rdV 2 l) = (σ.then fun _ l => rdB l).then fun n r => if 1 < n then .bad 12 else .ok ⟨2, n, ⟨#[]⟩⟩ r := by rw [then_assoc]; rfl
theorem then_rdV3 (σ : Got Unit) : (σ.then fun _ l => rdV 3 l) = (σ.then fun _ l => rdL l).then fun s r => if pl s = true then .ok ⟨3, 0, ⟨s.toArray⟩⟩ r else .bad 12 := by
  rw [then_assoc]
  congr 1
  funext _ l
  rw [rdV_3, rdT_L]
theorem val_zero {σ : Got Unit} : (σ.then fun _ l => rdV 0 l).after = σ ∧ ∀ a r, (σ.then fun _ l => rdV 0 l) = .ok a r → (⟨0, 0, ⟨#[]⟩⟩ : Vl) = a := by
  cases σ with
  | ok u l => exact ⟨rfl, fun a r h => by injection h⟩
  | bad y => exact ⟨rfl, fun a r h => by cases h⟩
theorem val_int {p : Got Nat} {X : Nat} (hv : ∀ a r, p = .ok a r → X = a) : (p.then fun n r => (.ok ⟨1, zb n, ⟨#[]⟩⟩ r : Got Vl)).after = p.after ∧ ∀ a r, (p.then fun n r => (.ok ⟨1, zb n, ⟨#[]⟩⟩ r : Got Vl)) = .ok a r → (⟨1, zb X, ⟨#[]⟩⟩ : Vl) = a := by
  cases p with
  | ok a r =>
    have := hv a r rfl
    subst this
    exact ⟨rfl, fun a r h => by injection h⟩
  | bad y => exact ⟨rfl, fun a r h => by cases h⟩
theorem bool_ok (x : Nat) : Vl.ok ⟨2, (x : Int), ⟨#[]⟩⟩ = decide (x ≤ 1) := by
  show okV 2 (x : Int) [] = _
  rw [ok_2, Bool.eq_iff_iff]
  simp
  omega
theorem val_bool {p : Got Nat} {x : Nat} (hv : OneOf p x) (h : Vl.ok ⟨2, (x : Int), ⟨#[]⟩⟩ = true) : (p.then fun n r => (if 1 < n then .bad 12 else .ok ⟨2, n, ⟨#[]⟩⟩ r : Got Vl)).after = p.after ∧ ∀ a r, (p.then fun n r => (if 1 < n then .bad 12 else .ok ⟨2, n, ⟨#[]⟩⟩ r : Got Vl)) = .ok a r → (⟨2, (x : Int), ⟨#[]⟩⟩ : Vl) = a := by
  rw [bool_ok] at h
  have h1 : x ≤ 1 := of_decide_eq_true h
  rcases hv with ⟨r, rfl⟩ | ⟨y, rfl, rfl⟩
  · simp only [then_ok, if_neg (show ¬ 1 < x by omega)]
    exact ⟨rfl, fun a r h => by injection h⟩
  · exact ⟨rfl, fun a r h => by cases h⟩
theorem val_nobool {p : Got Nat} {x : Nat} (hv : OneOf p x) (h : Vl.ok ⟨2, (x : Int), ⟨#[]⟩⟩ = false) : (p.then fun n r => (if 1 < n then .bad 12 else .ok ⟨2, n, ⟨#[]⟩⟩ r : Got Vl)).after = p.after.fail 12 ∧ ∀ a r, ¬ (p.then fun n r => (if 1 < n then .bad 12 else .ok ⟨2, n, ⟨#[]⟩⟩ r : Got Vl)) = .ok a r := by
  rw [bool_ok] at h
  have h1 : ¬ x ≤ 1 := of_decide_eq_false h
  rcases hv with ⟨r, rfl⟩ | ⟨y, rfl, rfl⟩
  · simp only [then_ok, if_pos (show 1 < x by omega)]
    exact ⟨rfl, fun a r h => by cases h⟩
  · exact ⟨rfl, fun a r h => by cases h⟩
def TextOf (p : Got (List UInt8)) (l : List UInt8) : Prop := (l.length ≤ 32 ∧ ∃ r, p = .ok l r) ∨ (∃ y, p = .bad y ∧ l = [])
theorem text_ok {l : List UInt8} (h : l.length ≤ 32) : Vl.ok ⟨3, 0, ⟨l.toArray⟩⟩ = pl l := by
  show okV 3 0 l = _
  rw [ok_3, decide_eq_true h]; rfl
theorem val_text {p : Got (List UInt8)} {l : List UInt8} (hv : TextOf p l) (h : Vl.ok ⟨3, 0, ⟨l.toArray⟩⟩ = true) : (p.then fun s r => (if pl s = true then .ok ⟨3, 0, ⟨s.toArray⟩⟩ r else .bad 12 : Got Vl)).after = p.after ∧ ∀ a r, (p.then fun s r => (if pl s = true then .ok ⟨3, 0, ⟨s.toArray⟩⟩ r else .bad 12 : Got Vl)) = .ok a r → (⟨3, 0, ⟨l.toArray⟩⟩ : Vl) = a := by
  rcases hv with ⟨hl, r, rfl⟩ | ⟨y, rfl, rfl⟩
  · rw [text_ok hl] at h
    simp only [then_ok, if_pos h]
    exact ⟨rfl, fun a r h => by injection h⟩
  · exact ⟨rfl, fun a r h => by cases h⟩
theorem val_notext {p : Got (List UInt8)} {l : List UInt8} (hv : TextOf p l) (h : Vl.ok ⟨3, 0, ⟨l.toArray⟩⟩ = false) : (p.then fun s r => (if pl s = true then .ok ⟨3, 0, ⟨s.toArray⟩⟩ r else .bad 12 : Got Vl)).after = p.after.fail 12 ∧ ∀ a r, ¬ (p.then fun s r => (if pl s = true then .ok ⟨3, 0, ⟨s.toArray⟩⟩ r else .bad 12 : Got Vl)) = .ok a r := by
  rcases hv with ⟨hl, r, rfl⟩ | ⟨y, rfl, rfl⟩
  · rw [text_ok hl] at h
    simp only [then_ok, if_neg (show ¬ pl l = true by rw [h]; decide)]
    exact ⟨rfl, fun a r h => by cases h⟩
  · exact ⟨rfl, fun a r h => by cases h⟩
theorem text_of {σ : Got Unit} {l : List UInt8} (h : (∃ r, (σ.then fun _ l => rdL l) = .ok l r) ∨ (∃ y, (σ.then fun _ l => rdL l) = .bad y ∧ l = [])) : TextOf (σ.then fun _ l => rdL l) l := by
  rcases h with ⟨r, h⟩ | h
  · refine .inl ⟨?_, r, h⟩
    cases σ with
    | bad y => cases h
    | ok u b =>
      rw [then_ok] at h
      unfold rdL rdB at h
      cases b with
      | nil => cases h
      | cons c t =>
        simp only [then_ok] at h
        by_cases h1 : 32 < c.toNat
        · rw [if_pos h1] at h; cases h
        · rw [if_neg h1] at h
          unfold rdTk at h
          by_cases h2 : t.length < c.toNat
          · rw [if_pos h2] at h; cases h
          · rw [if_neg h2] at h
            injection h with h _
            rw [← h, List.length_take]
            omega
  · exact .inr h
theorem not_t {b : Bool} (h : (!b) = true) : b = false := by simpa using h
theorem not_f {b : Bool} (h : (!b) = false) : b = true := by simpa using h
theorem text_size {p : Got (List UInt8)} {l : List UInt8} (h : TextOf p l) : (⟨l.toArray⟩ : ByteArray).size ≤ maxLen := by
  show l.toArray.size ≤ maxLen
  rw [List.size_toArray]
  rcases h with ⟨h, _⟩ | ⟨y, _, rfl⟩
  · unfold maxLen; omega
  · simp
set_option maxRecDepth 20000 in
set_option maxHeartbeats 2000000 in
theorem value_0 (B g : Nat) (σ : Got Unit) (w : World) (h : Rd B w g σ) :
    Calls Try.prog 42 #[.pointer (some ⟨g, 0, none⟩), .int .i64 0] w (ValPost B w g (σ.then fun _ l => rdV 0 l)) := by
  have HG := Lib.hid h.lt
  obtain ⟨m0, x0, y0⟩ := two_box w 0 g B σ h
  have M0 := Lib.hid m0
  have X0 := Lib.hid x0
  have Y0 := Lib.hid y0
  have HO := Lib.hid (show Vl.ok ⟨0, 0, ⟨#[]⟩⟩ = true from rfl)
  have HZ := Lib.hid (show (⟨#[]⟩ : ByteArray).size ≤ maxLen by decide)
  clear h m0 x0 y0
  go_enter Try.func42, Try.ntmps42
  go_wp2_with (go_at_call 25; (with_reducible refine (wrong_is 0 0 ⟨#[]⟩ true HO.out _ HZ.out).mono ?_); rintro e w1 ⟨rfl, hb1⟩; have M1 := Lib.hid (M0.out.below hb1); have X1 := Lib.hid (X0.out.below hb1); have Y1 := Lib.hid (Y0.out.below hb1); obtain ⟨a0, a1, a2⟩ := X1.out.cells; obtain ⟨b0, b1, b2⟩ := box_open X1.out; obtain ⟨c0, c1, c2⟩ := Y1.out.cells; clear hb1)
  (try simp only [Exit.inBlock, Exit.then])
  refine bodyPost_ret (v := .agg #[.int .i64 0, .int .i64 0, .string ⟨#[]⟩]) ?_ rfl ?_
  · rw [results_cell rfl]
    go_simp
  exact ⟨⟨0, 0, ⟨#[]⟩⟩, rfl, by rw [val_zero.1]; exact ((M1.out.set HG.out (Nat.le_refl _)).set HG.out (Nat.le_refl _)).set HG.out (Nat.le_refl _), val_zero.2⟩
set_option maxRecDepth 20000 in
set_option maxHeartbeats 4000000 in
theorem value_1 (B g : Nat) (σ : Got Unit) (w : World) (h : Rd B w g σ) :
    Calls Try.prog 42 #[.pointer (some ⟨g, 0, none⟩), .int .i64 1] w (ValPost B w g (σ.then fun _ l => rdV 1 l)) := by
  have HG := Lib.hid h.lt
  have HG0 := Lib.hid (show ¬ w.heap.size = g by have := h.lt; omega)
  have HG1 := Lib.hid (show ¬ w.heap.size + 1 = g by have := h.lt; omega)
  obtain ⟨m0, x0, y0⟩ := two_box w 1 g B σ h
  have M0 := Lib.hid m0
  have R0 := Lib.hid m0.1
  have X0 := Lib.hid x0
  have Y0 := Lib.hid y0
  have HT := Lib.hid (then_rdV1 σ)
  have HZ := Lib.hid (show (⟨#[]⟩ : ByteArray).size ≤ maxLen by decide)
  have HNE := Lib.hid (show ¬ w.heap.size + 1 = w.heap.size by omega)
  clear h m0 x0 y0
  go_enter Try.func42, Try.ntmps42
  go_wp2_with (first | (go_at_call 39; (with_reducible refine (smallR_any B g σ _ R0.out).mono ?_); rintro e w1 ⟨X, rfl, hX, hm, hv⟩; have M1 := Lib.hid (M0.out.on hm); have X1 := Lib.hid (box_moved X0.out hm HG0.out); have Y1 := Lib.hid (box_moved Y0.out hm HG1.out); have HV := Lib.hid hv; obtain ⟨c0, c1, c2⟩ := Y1.out.cells; obtain ⟨d0, d1, d2⟩ := box_open Y1.out; clear hm hv) | (go_at_call 45; (with_reducible refine (turnedBack_any X _ hX).mono ?_); rintro e w' ⟨rfl, rfl⟩) | (go_at_call 25; (with_reducible refine (wrong_is 1 (zb X) ⟨#[]⟩ true (show Vl.ok ⟨1, zb X, ⟨#[]⟩⟩ = true from rfl) _ HZ.out).mono ?_); rintro e w2 ⟨rfl, hb1⟩; have M2 := Lib.hid ((M1.out.set (b := w.heap.size + 1) (i := 1) (x := .int .i64 (zb X)) HG.out (Nat.le_succ _)).below hb1); have X2 := Lib.hid ((box_apart (b := w.heap.size + 1) (i := 1) (x := .int .i64 (zb X)) X1.out HNE.out).below hb1); have Y2 := Lib.hid ((box_set1 (m := zb X) Y1.out).below hb1); obtain ⟨a0, a1, a2⟩ := X2.out.cells; obtain ⟨b0, b1, b2⟩ := box_open X2.out; obtain ⟨f0, f1, f2⟩ := Y2.out.cells; clear hb1 c0 c1 c2 d0 d1 d2))
  (try simp only [Exit.inBlock, Exit.then])
  refine bodyPost_ret (v := .agg #[.int .i64 1, .int .i64 (zb X), .string ⟨#[]⟩]) ?_ rfl ?_
  · rw [results_cell rfl]
    go_simp
  rw [HT.out]
  exact ⟨⟨1, zb X, ⟨#[]⟩⟩, rfl, by rw [(val_int HV.out).1]; exact ((M2.out.set HG.out (Nat.le_refl _)).set HG.out (Nat.le_refl _)).set HG.out (Nat.le_refl _), (val_int HV.out).2⟩
set_option maxRecDepth 20000 in
set_option maxHeartbeats 4000000 in
theorem value_2 (B g : Nat) (σ : Got Unit) (w : World) (h : Rd B w g σ) :
    Calls Try.prog 42 #[.pointer (some ⟨g, 0, none⟩), .int .i64 2] w (ValPost B w g (σ.then fun _ l => rdV 2 l)) := by
  have HG := Lib.hid h.lt
  have HG0 := Lib.hid (show ¬ w.heap.size = g by have := h.lt; omega)
  have HG1 := Lib.hid (show ¬ w.heap.size + 1 = g by have := h.lt; omega)
  obtain ⟨m0, x0, y0⟩ := two_box w 2 g B σ h
  have M0 := Lib.hid m0
  have R0 := Lib.hid m0.1
  have X0 := Lib.hid x0
  have Y0 := Lib.hid y0
  have HT := Lib.hid (then_rdV2 σ)
  have HNE := Lib.hid (show ¬ w.heap.size + 1 = w.heap.size by omega)
  clear h m0 x0 y0
  go_enter Try.func42, Try.ntmps42
  go_wp2_with (first | (go_at_call 41; (with_reducible refine (oneR_any B g σ _ R0.out).mono ?_); rintro e w1 ⟨x, rfl, hm, hx, hv⟩; have HV := Lib.hid (show OneOf _ x from hv); obtain ⟨b, hb⟩ : ∃ b, Vl.ok ⟨2, (x : Int), ⟨#[]⟩⟩ = b := ⟨_, rfl⟩; have HB := Lib.hid hb; have HZ := Lib.hid (show (⟨#[]⟩ : ByteArray).size ≤ maxLen by decide); clear hb; have M1 := Lib.hid (M0.out.on hm); have X1 := Lib.hid (box_moved X0.out hm HG0.out); have Y1 := Lib.hid (box_moved Y0.out hm HG1.out); obtain ⟨c0, c1, c2⟩ := Y1.out.cells; obtain ⟨d0, d1, d2⟩ := box_open Y1.out; clear hm hv) | (go_at_call 25; (with_reducible refine (wrong_is 2 (x : Int) ⟨#[]⟩ b HB.out _ HZ.out).mono ?_); rintro e w2 ⟨rfl, hb1⟩; have M2 := Lib.hid ((M1.out.set (b := w.heap.size + 1) (i := 1) (x := .int .i64 (x : Int)) HG.out (Nat.le_succ _)).below hb1); have R2 := Lib.hid M2.out.1; have X2 := Lib.hid ((box_apart (b := w.heap.size + 1) (i := 1) (x := .int .i64 (x : Int)) X1.out HNE.out).below hb1); have Y2 := Lib.hid ((box_set1 (m := (x : Int)) Y1.out).below hb1); obtain ⟨a0, a1, a2⟩ := X2.out.cells; obtain ⟨b0, b1, b2⟩ := box_open X2.out; obtain ⟨f0, f1, f2⟩ := Y2.out.cells; clear hb1 c0 c1 c2 d0 d1 d2) | (go_at_call 40; (with_reducible refine (fail_any B g _ 12 w2 (by decide) R2.out).mono ?_); rintro e w3 ⟨rfl, hm⟩; have M3 := Lib.hid (M2.out.on hm); have X3 := Lib.hid (box_moved X2.out hm HG0.out); have Y3 := Lib.hid (box_moved Y2.out hm HG1.out); obtain ⟨p0, p1, p2⟩ := X3.out.cells; obtain ⟨q0, q1, q2⟩ := box_open X3.out; obtain ⟨s0, s1, s2⟩ := Y3.out.cells; clear hm))
  · have hbf : b = false := not_t (by assumption)
    subst hbf
    obtain ⟨e1, e2⟩ := val_nobool HV.out HB.out
    (try simp only [Exit.inBlock, Exit.then])
    refine bodyPost_ret (v := .agg #[.int .i64 2, .int .i64 (x : Int), .string ⟨#[]⟩]) ?_ rfl ?_
    · rw [results_cell rfl]
      go_simp
    rw [HT.out]
    exact ⟨⟨2, (x : Int), ⟨#[]⟩⟩, rfl, by rw [e1]; exact ((M3.out.set HG.out (Nat.le_refl _)).set HG.out (Nat.le_refl _)).set HG.out (Nat.le_refl _), fun a r h => absurd h (e2 a r)⟩
  · have hbt : b = true := not_f (by assumption)
    subst hbt
    obtain ⟨e1, e2⟩ := val_bool HV.out HB.out
    (try simp only [Exit.inBlock, Exit.then])
    refine bodyPost_ret (v := .agg #[.int .i64 2, .int .i64 (x : Int), .string ⟨#[]⟩]) ?_ rfl ?_
    · rw [results_cell rfl]
      go_simp
    rw [HT.out]
    exact ⟨⟨2, (x : Int), ⟨#[]⟩⟩, rfl, by rw [e1]; exact ((M2.out.set HG.out (Nat.le_refl _)).set HG.out (Nat.le_refl _)).set HG.out (Nat.le_refl _), e2⟩
set_option maxRecDepth 20000 in
set_option maxHeartbeats 4000000 in
theorem value_3 (B g : Nat) (σ : Got Unit) (w : World) (h : Rd B w g σ) :
    Calls Try.prog 42 #[.pointer (some ⟨g, 0, none⟩), .int .i64 3] w (ValPost B w g (σ.then fun _ l => rdV 3 l)) := by
  have HG := Lib.hid h.lt
  have HG0 := Lib.hid (show ¬ w.heap.size = g by have := h.lt; omega)
  have HG1 := Lib.hid (show ¬ w.heap.size + 1 = g by have := h.lt; omega)
  obtain ⟨m0, x0, y0⟩ := two_box w 3 g B σ h
  have M0 := Lib.hid m0
  have R0 := Lib.hid m0.1
  have X0 := Lib.hid x0
  have Y0 := Lib.hid y0
  have HT := Lib.hid (then_rdV3 σ)
  have HNE := Lib.hid (show ¬ w.heap.size + 1 = w.heap.size by omega)
  clear h m0 x0 y0
  go_enter Try.func42, Try.ntmps42
  go_wp2_with (first | (go_at_call 46; (with_reducible refine (textR_any B g σ _ R0.out).mono ?_); rintro e w1 ⟨l, rfl, hm, hv⟩; have HV := Lib.hid (text_of hv); obtain ⟨b, hb⟩ : ∃ b, Vl.ok ⟨3, 0, ⟨l.toArray⟩⟩ = b := ⟨_, rfl⟩; have HB := Lib.hid hb; have HZ := Lib.hid (text_size (text_of hv)); clear hb; have M1 := Lib.hid (M0.out.on hm); have X1 := Lib.hid (box_moved X0.out hm HG0.out); have Y1 := Lib.hid (box_moved Y0.out hm HG1.out); obtain ⟨c0, c1, c2⟩ := Y1.out.cells; obtain ⟨d0, d1, d2⟩ := box_open Y1.out; clear hm hv) | (go_at_call 25; (with_reducible refine (wrong_is 3 0 ⟨l.toArray⟩ b HB.out _ HZ.out).mono ?_); rintro e w2 ⟨rfl, hb1⟩; have M2 := Lib.hid ((M1.out.set (b := w.heap.size + 1) (i := 2) (x := .string ⟨l.toArray⟩) HG.out (Nat.le_succ _)).below hb1); have R2 := Lib.hid M2.out.1; have X2 := Lib.hid ((box_apart (b := w.heap.size + 1) (i := 2) (x := .string ⟨l.toArray⟩) X1.out HNE.out).below hb1); have Y2 := Lib.hid ((box_set2 (t := ⟨l.toArray⟩) Y1.out).below hb1); obtain ⟨a0, a1, a2⟩ := X2.out.cells; obtain ⟨b0, b1, b2⟩ := box_open X2.out; obtain ⟨f0, f1, f2⟩ := Y2.out.cells; clear hb1 c0 c1 c2 d0 d1 d2) | (go_at_call 40; (with_reducible refine (fail_any B g _ 12 w2 (by decide) R2.out).mono ?_); rintro e w3 ⟨rfl, hm⟩; have M3 := Lib.hid (M2.out.on hm); have X3 := Lib.hid (box_moved X2.out hm HG0.out); have Y3 := Lib.hid (box_moved Y2.out hm HG1.out); obtain ⟨p0, p1, p2⟩ := X3.out.cells; obtain ⟨q0, q1, q2⟩ := box_open X3.out; obtain ⟨s0, s1, s2⟩ := Y3.out.cells; clear hm))
  · have hbf : b = false := not_t (by assumption)
    subst hbf
    obtain ⟨e1, e2⟩ := val_notext HV.out HB.out
    (try simp only [Exit.inBlock, Exit.then])
    refine bodyPost_ret (v := .agg #[.int .i64 3, .int .i64 0, .string ⟨l.toArray⟩]) ?_ rfl ?_
    · rw [results_cell rfl]
      go_simp
    rw [HT.out]
    exact ⟨⟨3, 0, ⟨l.toArray⟩⟩, rfl, by rw [e1]; exact ((M3.out.set HG.out (Nat.le_refl _)).set HG.out (Nat.le_refl _)).set HG.out (Nat.le_refl _), fun a r h => absurd h (e2 a r)⟩
  · have hbt : b = true := not_f (by assumption)
    subst hbt
    obtain ⟨e1, e2⟩ := val_text HV.out HB.out
    (try simp only [Exit.inBlock, Exit.then])
    refine bodyPost_ret (v := .agg #[.int .i64 3, .int .i64 0, .string ⟨l.toArray⟩]) ?_ rfl ?_
    · rw [results_cell rfl]
      go_simp
    rw [HT.out]
    exact ⟨⟨3, 0, ⟨l.toArray⟩⟩, rfl, by rw [e1]; exact ((M2.out.set HG.out (Nat.le_refl _)).set HG.out (Nat.le_refl _)).set HG.out (Nat.le_refl _), e2⟩
/-- A value of any kind. -/
theorem value_any (B g k : Nat) (hk : k < 4) (σ : Got Unit) (w : World) (h : Rd B w g σ) :
    Calls Try.prog 42 #[.pointer (some ⟨g, 0, none⟩), .int .i64 k] w (ValPost B w g (σ.then fun _ l => rdV k l)) := by
  match k, hk with
  | 0, _ => exact value_0 B g σ w h
  | 1, _ => exact value_1 B g σ w h
  | 2, _ => exact value_2 B g σ w h
  | 3, _ => exact value_3 B g σ w h
end Go.Proofs.Ytkpieiolplkifaa.Rw
