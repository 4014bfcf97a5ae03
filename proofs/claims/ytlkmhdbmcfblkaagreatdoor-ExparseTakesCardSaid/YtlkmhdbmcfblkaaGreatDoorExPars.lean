import Derived.Test.YtlkmhdbmcfblkaaGreatDoorExPss
import Derived.Test.YtlkmhdbmcfblkaaGreatDoorExOverNs
/- The program's parser by the document's words: what its smallest calls leave. -/
namespace Go.Proofs.YtlkmhdbmcfblkaaGreatDoor.Ep
open Go.RowKit Go.Proofs.YtlkmhdbmcfblkaaGreatDoor.Mem Go.Proofs.YtlkmhdbmcfblkaaGreatDoor.Right Go.Proofs.YtlkmhdbmcfblkaaGreatDoor.Lx
set_option linter.unusedVariables false

/-- Tokens that are right, not too many, the last one the end. -/
def Rts (L : List To) : Prop := L.length ≤ 1000 ∧ (∀ x ∈ L, rightTo x = true ∧ x.text.length ≤ 1000000) ∧ Wf (L.map toTt)
abbrev Ts (L : List To) : List Tt := L.map toTt
theorem tk_at {L : List To} {p : Nat} {x : To} (h : L[p]? = some x) : tk (Ts L) p = toTt x := by
  unfold tk Ts
  rw [List.getElem?_map, h]; rfl
theorem to_some {L : List To} {p : Nat} (h : p < L.length) : ∃ x, L[p]? = some x := ⟨L[p], List.getElem?_eq_getElem h⟩
theorem Rts.at_ {L : List To} (h : Rts L) {p : Nat} {x : To} (hx : L[p]? = some x) : rightTo x = true ∧ x.text.length ≤ 1000000 := h.2.1 x (List.mem_of_getElem? hx)
theorem Ts_len (L : List To) : (Ts L).length = L.length := List.length_map _
/-- A key or a sign comes next: its text tells it. -/
theorem isT_text {L : List To} (h : Rts L) {p : Nat} {x : To} (hx : L[p]? = some x) {k : List UInt8} (hk : kindOf k = 2 ∨ kindOf k = 6) : isT (Ts L) p k = decide (x.text = k) := by
  obtain ⟨_, _, hkind⟩ := right_kind (h.at_ hx).1
  unfold isT
  rw [tk_at hx]
  by_cases ht : x.text = k
  · have h1 : (toTt x).2 = k := ht
    have h2 : (toTt x).1 = kindOf k := by
      show x.kind.toNat = _
      rw [hkind, ht]; simp
    rw [h1, h2, decide_eq_true ht]
    rcases hk with hk | hk <;> rw [hk] <;> simp
  · rw [decide_eq_false ht]
    have : ((toTt x).2 == k) = false := by simpa [toTt] using ht
    rw [this, Bool.and_false]
/-- A rank's number in the program. -/
def rkP (r : Nat) : Int := if r = 1 then 1 else if r = 2 then 2 else if r = 4 then 3 else if r = 5 then 4 else 5
theorem op_text (t : Tt) (ht : RT t) (r : Nat) (hr : r = 1 ∨ r = 2 ∨ r = 4 ∨ r = 5 ∨ r = 6) :
    esAt (rkP r) t.2 = if (if rk 5 (opT t) = r then opT t else 0) = 0 then none else some (if rk 5 (opT t) = r then opT t else 0) := by
  obtain ⟨k, l⟩ := t
  have hkind : k = kindOf l := ht.symm
  have lits : ∀ k : List UInt8, l = k → kindOf k = 2 ∨ kindOf k = 6 → (esAt (rkP r) k = if (if rk 5 (opT (kindOf k, k)) = r then opT (kindOf k, k) else 0) = 0 then none else some (if rk 5 (opT (kindOf k, k)) = r then opT (kindOf k, k) else 0)) → esAt (rkP r) l = if (if rk 5 (opT (kindOf l, l)) = r then opT (kindOf l, l) else 0) = 0 then none else some (if rk 5 (opT (kindOf l, l)) = r then opT (kindOf l, l) else 0) := fun k e _ h => by rw [e]; exact h
  subst hkind
  show esAt (rkP r) l = _
  by_cases h1 : l = kOR
  · refine lits _ h1 (by decide) ?_; rcases hr with rfl | rfl | rfl | rfl | rfl <;> decide
  by_cases h2 : l = kAND
  · refine lits _ h2 (by decide) ?_; rcases hr with rfl | rfl | rfl | rfl | rfl <;> decide
  by_cases h3 : l = [61]
  · refine lits _ h3 (by decide) ?_; rcases hr with rfl | rfl | rfl | rfl | rfl <;> decide
  by_cases h4 : l = [60, 62]
  · refine lits _ h4 (by decide) ?_; rcases hr with rfl | rfl | rfl | rfl | rfl <;> decide
  by_cases h5 : l = [60]
  · refine lits _ h5 (by decide) ?_; rcases hr with rfl | rfl | rfl | rfl | rfl <;> decide
  by_cases h6 : l = [60, 61]
  · refine lits _ h6 (by decide) ?_; rcases hr with rfl | rfl | rfl | rfl | rfl <;> decide
  by_cases h7 : l = [62]
  · refine lits _ h7 (by decide) ?_; rcases hr with rfl | rfl | rfl | rfl | rfl <;> decide
  by_cases h8 : l = [62, 61]
  · refine lits _ h8 (by decide) ?_; rcases hr with rfl | rfl | rfl | rfl | rfl <;> decide
  by_cases h9 : l = [43]
  · refine lits _ h9 (by decide) ?_; rcases hr with rfl | rfl | rfl | rfl | rfl <;> decide
  by_cases h10 : l = [45]
  · refine lits _ h10 (by decide) ?_; rcases hr with rfl | rfl | rfl | rfl | rfl <;> decide
  by_cases h11 : l = [42]
  · refine lits _ h11 (by decide) ?_; rcases hr with rfl | rfl | rfl | rfl | rfl <;> decide
  by_cases h12 : l = [47]
  · refine lits _ h12 (by decide) ?_; rcases hr with rfl | rfl | rfl | rfl | rfl <;> decide
  by_cases h13 : l = [37]
  · refine lits _ h13 (by decide) ?_; rcases hr with rfl | rfl | rfl | rfl | rfl <;> decide
  by_cases h14 : l = [124, 124]
  · refine lits _ h14 (by decide) ?_; rcases hr with rfl | rfl | rfl | rfl | rfl <;> decide
  have ho : opT (kindOf l, l) = 0 := by
    unfold opT
    simp only [h1, h2, h3, h4, h5, h6, h7, h8, h9, h10, h11, h12, h13, h14, if_false]
    split <;> rfl
  rw [ho]
  have he : esAt (rkP r) l = none := by
    unfold esAt
    have : esl.find? (fun x => decide (x.2.1 = rkP r ∧ x.1 = l)) = none := by
      rw [List.find?_eq_none]
      intro x hx
      simp only [decide_eq_true_eq]
      rintro ⟨_, e⟩
      simp only [esl, List.mem_cons, List.not_mem_nil, or_false] at hx
      rcases hx with rfl | rfl | rfl | rfl | rfl | rfl | rfl | rfl | rfl | rfl | rfl | rfl | rfl | rfl
      · exact h1 e.symm
      · exact h2 e.symm
      · exact h3 e.symm
      · exact h4 e.symm
      · exact h5 e.symm
      · exact h6 e.symm
      · exact h7 e.symm
      · exact h8 e.symm
      · exact h9 e.symm
      · exact h10 e.symm
      · exact h14 e.symm
      · exact h11 e.symm
      · exact h12 e.symm
      · exact h13 e.symm
    rw [this]; rfl
  rw [he]
  split <;> rfl
theorem es_sg {L : List To} (h : Rts L) {p : Nat} {x : To} (hx : L[p]? = some x) {r : Nat} (hr : r = 1 ∨ r = 2 ∨ r = 4 ∨ r = 5 ∨ r = 6) : esAt (rkP r) x.text = if sgAt (Ts L) r p = 0 then none else some (sgAt (Ts L) r p) := by
  have hp := (List.getElem?_eq_some_iff.1 hx).1
  have ht := (h.2.2.2 p (by rw [Ts_len]; exact hp)).1
  rw [tk_at hx] at ht
  have := op_text (toTt x) ht r hr
  unfold sgAt
  rw [tk_at hx]
  exact this
/-! ### No tree grows by being let go -/
theorem sizeL_nil : sizeL [] = 0 := by rw [sizeL]
theorem size_cut : ∀ e : Ex, size (cutE e) ≤ size e := by
  refine Ex.byKids fun k o vk vn vs nm kids ih => ?_
  have hk : sizeL (kids.map cutE) ≤ sizeL kids := by
    clear k o vk vn vs nm
    induction kids with
    | nil => exact Nat.le_refl _
    | cons x l ihl =>
      rw [List.map_cons, sizeL_cons, sizeL_cons]
      have h1 := ih x (by simp)
      have h2 := ihl fun y hy => ih y (List.mem_cons_of_mem _ hy)
      omega
  rw [cutE_mk, size_mk]
  unfold lim
  split
  · unfold exZ; rw [size_mk, sizeL_nil]; omega
  · rw [size_mk]; omega
theorem sizeL_cut (l : List Ex) : sizeL (l.map cutE) ≤ sizeL l := by
  induction l with
  | nil => exact Nat.le_refl _
  | cons x l ih =>
    rw [List.map_cons, sizeL_cons, sizeL_cons]
    have := size_cut x
    omega
section
variable {w : World} {B p n c : Nat} {A : Option Addr} {L : List To} {l : List Ex} {d : Bool}
variable (h : Ps w B (.slice A n c) p l d) (hE : Env w B A L) (hL : Rts L) (hn : n = L.length) (hp : p < L.length)
include h hE hL hn hp
theorem skip_is {k : List UInt8} (hk : kindOf k = 2 ∨ kindOf k = 6) (ht : isT (Ts L) p k = true) :
    Calls Tryz.prog 104 #[pV B, .string ⟨k.toArray⟩] w fun e w' => e = .returned (.bool true) ∧ Ps w' B (.slice A n c) (p + 1) l d ∧ Below B w w' := by
  obtain ⟨v, hz, hpl⟩ := h
  obtain ⟨x, hx⟩ := to_some hp
  rw [isT_text hL hx hk] at ht
  have ht : x.text = k := of_decide_eq_true ht
  subst ht
  refine (skip_yes hz hE.toks hx hn hL.1).mono ?_
  rintro e w' ⟨rfl, h1, h2⟩
  exact ⟨rfl, ⟨v, h1, hpl.oth h2⟩, h2.1⟩
theorem skip_not {k : List UInt8} (hk : kindOf k = 2 ∨ kindOf k = 6) (ht : isT (Ts L) p k = false) :
    Calls Tryz.prog 104 #[pV B, .string ⟨k.toArray⟩] w fun e w' => e = .returned (.bool false) ∧ Ps w' B (.slice A n c) p l d ∧ Below B w w' := by
  obtain ⟨v, hz, hpl⟩ := h
  obtain ⟨x, hx⟩ := to_some hp
  rw [isT_text hL hx hk] at ht
  have ht : ¬ x.text = k := of_decide_eq_false ht
  refine (skip_no hz hE.toks hx hn ⟨k.toArray⟩ ?_).mono ?_
  · rcases text_or x.text ⟨k.toArray⟩ with e | ⟨_, e⟩
    · exact absurd (congrArg (fun s : ByteArray => s.data.toList) e).symm ht
    · exact e
  rintro e w' ⟨rfl, h1, h2⟩
  exact ⟨rfl, ⟨v, h1, hpl.oth h2⟩, h2.1⟩
theorem must_is {k : List UInt8} (hk : kindOf k = 2 ∨ kindOf k = 6) (ht : isT (Ts L) p k = true) :
    Calls Tryz.prog 166 #[pV B, .string ⟨k.toArray⟩] w fun e w' => e = .returned (.tuple #[]) ∧ Ps w' B (.slice A n c) (p + 1) l d ∧ Below B w w' := by
  obtain ⟨v, hz, hpl⟩ := h
  obtain ⟨x, hx⟩ := to_some hp
  rw [isT_text hL hx hk] at ht
  have ht : x.text = k := of_decide_eq_true ht
  subst ht
  refine (must_yes hz hE.toks hx hn hL.1).mono ?_
  rintro e w' ⟨rfl, h1, h2⟩
  exact ⟨rfl, ⟨v, h1, hpl.oth h2⟩, h2.1⟩
theorem must_not {k : List UInt8} (hk : kindOf k = 2 ∨ kindOf k = 6) (ht : isT (Ts L) p k = false) :
    Calls Tryz.prog 166 #[pV B, .string ⟨k.toArray⟩] w fun e w' => e = gaveUp 16 p ∧ Below B w w' := by
  obtain ⟨v, hz, hpl⟩ := h
  obtain ⟨x, hx⟩ := to_some hp
  rw [isT_text hL hx hk] at ht
  have ht : ¬ x.text = k := of_decide_eq_false ht
  refine (must_no hz hE.toks hx hn ⟨k.toArray⟩ ?_).mono ?_
  · rcases text_or x.text ⟨k.toArray⟩ with e | ⟨_, e⟩
    · exact absurd (congrArg (fun s : ByteArray => s.data.toList) e).symm ht
    · exact e
  rintro e w' ⟨rfl, h2⟩
  exact ⟨rfl, h2.1⟩
theorem sign_is {r : Nat} (hr : r = 1 ∨ r = 2 ∨ r = 4 ∨ r = 5 ∨ r = 6) (hs : sgAt (Ts L) r p ≠ 0) :
    Calls Tryz.prog 57 #[pV B, .int .i64 (rkP r)] w fun e w' => e = .returned (.tuple #[.int .i64 (sgAt (Ts L) r p), .bool true]) ∧ Ps w' B (.slice A n c) (p + 1) l d ∧ Below B w w' := by
  obtain ⟨v, hz, hpl⟩ := h
  obtain ⟨x, hx⟩ := to_some hp
  have := sign_any hz hE hx hn hL.1 (rkP r)
  rw [es_sg hL hx hr, if_neg hs] at this
  refine this.mono ?_
  rintro e w' ⟨rfl, h1, h2⟩
  exact ⟨rfl, ⟨v, h1, hpl.oth h2⟩, h2.1⟩
theorem sign_not {r : Nat} (hr : r = 1 ∨ r = 2 ∨ r = 4 ∨ r = 5 ∨ r = 6) (hs : sgAt (Ts L) r p = 0) :
    Calls Tryz.prog 57 #[pV B, .int .i64 (rkP r)] w fun e w' => e = .returned (.tuple #[.int .i64 0, .bool false]) ∧ Ps w' B (.slice A n c) p l d ∧ Below B w w' := by
  obtain ⟨v, hz, hpl⟩ := h
  obtain ⟨x, hx⟩ := to_some hp
  have := sign_any hz hE hx hn hL.1 (rkP r)
  rw [es_sg hL hx hr, if_pos hs] at this
  refine this.mono ?_
  rintro e w' ⟨rfl, h1, h2⟩
  exact ⟨rfl, ⟨v, h1, hpl.oth h2⟩, h2.1⟩
end
/-- A tree in the place of its kids, as they came to be on the pile. -/
theorem over_cut {w : World} {B p m kn : Nat} {tk : Value} {l xs : List Ex} {d : Bool} (h : Ps w B tk p (l ++ xs.map cutE) (d || xs.any high)) (hm : l.length = m) (hk : xs.length = kn) (h0 : 0 < kn) (hk9 : kn ≤ 100) (hl : m ≤ 1000) (k o vk vn : Int) (vs nm : List UInt8) (hz : sizeL xs ≤ 10000) :
    Calls Tryz.prog 58 #[pV B, .int .i64 (kn : Int), exV k o vk vn (Ep.txt vs) (Ep.txt nm) none 0 0] w fun e w' => e = .returned (.tuple #[]) ∧ Ps w' B tk p (l ++ [cutE (.mk k o vk vn vs nm xs)]) (d || high (.mk k o vk vn vs nm xs)) ∧ Below B w w' := by
  have hs : size (.mk k o vk vn vs nm (xs.map cutE)) ≤ 100000 := by
    have := sizeL_cut xs
    rw [size_mk]; omega
  have hkl : (xs.map cutE).length = kn := by rw [List.length_map, hk]
  rw [high_mk, cutE_mk, ← Bool.or_assoc]
  by_cases hh : 8 < hgt (.mk k o vk vn vs nm (xs.map cutE))
  · have := over_yes h hm hkl h0 hk9 hl k o vk vn vs nm hs hh
    rw [decide_eq_true hh, Bool.or_true]
    unfold lim
    rw [if_pos hh]
    exact this
  · have := over_no h hm hkl h0 hk9 hl k o vk vn vs nm hs (by omega)
    rw [decide_eq_false hh, Bool.or_false]
    unfold lim
    rw [if_neg hh]
    exact this
/-! ### What reading leaves -/
/-- The tree is on the pile, or it gave up. -/
def Leaves1 (w0 : World) (B : Nat) (tk : Value) (l : List Ex) (d : Bool) (R : Res Ex) (e : Ending) (w' : World) : Prop :=
  Below B w0 w' ∧ match R with
  | .ok x q => e = .returned (.tuple #[]) ∧ Ps w' B tk q (l ++ [cutE x]) (d || high x)
  | .err c q => e = gaveUp c q
/-- A call that reads as the grammar's line does. -/
def Reads (f : FuncId) (B : Nat) (A : Option Addr) (n c : Nat) (L : List To) (R : Nat → Res Ex) : Prop :=
  ∀ (w : World) (p : Nat) (l : List Ex) (d : Bool), Ps w B (.slice A n c) p l d → Env w B A L → p < L.length → l.length ≤ p → (∀ q, R p ≠ .err 99 q) → Calls Tryz.prog f #[pV B] w (Leaves1 w B (.slice A n c) l d (R p))
end Go.Proofs.YtlkmhdbmcfblkaaGreatDoor.Ep
/- The program's parser reads a value; what stands behind IS. -/
namespace Go.Proofs.YtlkmhdbmcfblkaaGreatDoor.Ep
open Go.RowKit Go.Proofs.YtlkmhdbmcfblkaaGreatDoor.Mem Go.Proofs.YtlkmhdbmcfblkaaGreatDoor.Right Go.Proofs.YtlkmhdbmcfblkaaGreatDoor.Lx
set_option linter.unusedVariables false

theorem cut_lit (k n : Int) (s : List UInt8) : cutE (lit k n s) = lit k n s := cut_leaf _ _ _ _ _ _
theorem high_lit (k n : Int) (s : List UInt8) : high (lit k n s) = false := high_leaf _ _ _ _ _ _
section
variable {w : World} {B p n c : Nat} {A : Option Addr} {L : List To} {l : List Ex} {d : Bool}
/-- Values as the lexer tells them. -/
theorem Leaves1.leaf {w0 w' : World} {tk : Value} {k o vk vn : Int} {vs nm : List UInt8} {q : Nat} (hb : Below B w0 w') (h : Ps w' B tk q (l ++ [.mk k o vk vn vs nm []]) d) : Leaves1 w0 B tk l d (.ok (.mk k o vk vn vs nm []) q) (.returned (.tuple #[])) w' := by
  refine ⟨hb, rfl, ?_⟩
  rw [cut_leaf, high_leaf, Bool.or_false]
  exact h
set_option maxRecDepth 100000 in
set_option maxHeartbeats 1000000 in
theorem lit_any (h : Ps w B (.slice A n c) p l d) (hE : Env w B A L) (hL : Rts L) (hn : n = L.length) (hp : p < L.length) (hl : l.length ≤ p) (hv : isVal (tk (Ts L) p) = true) :
    Calls Tryz.prog 202 #[pV B] w (Leaves1 w B (.slice A n c) l d (if (Val.rd (tk (Ts L) p).2).e = 0 then .ok (lit (Val.rd (tk (Ts L) p).2).k (Val.rd (tk (Ts L) p).2).n (Val.rd (tk (Ts L) p).2).s) (p + 1) else .err (Val.rd (tk (Ts L) p).2).e p)) := by
  obtain ⟨x, hx⟩ := to_some hp
  rw [tk_at hx] at hv ⊢
  have hr := hL.at_ hx
  have hB := h.lt
  obtain ⟨v, hz, hpl⟩ := h
  have HP := Lib.hid (show Ps w B (.slice A n c) p l d from ⟨v, hz, hpl⟩)
  have HN := Lib.hid (next_any hz hE.toks hx hn)
  have HE := Lib.hid hE
  have HB := Lib.hid hB
  obtain ⟨⟨rk, rn, rs, re⟩, hrd⟩ : ∃ g, Val.rd x.text = g := ⟨_, rfl⟩
  have hb1 : ∀ W, Below w.heap.size w W → Below B w W := fun W hW => hW.mono (Nat.le_of_lt hB)
  have HV := Lib.hid (show ∀ W, Below w.heap.size w W → Calls Tryz.prog 213 #[.agg #[.int .i64 x.kind, .string (Ep.txt x.text), .int .i64 x.at_]] W fun e w' => e = .returned (.tuple #[.agg #[.int .i64 rk, .int .i64 rn, .string (Ep.txt rs)], .int .i64 re]) ∧ Below W.heap.size W w' from fun W hW => by
    obtain ⟨m, hm⟩ := (hE.below (hb1 W hW)).max
    have := lexValue_any x hr.1 hv hr.2 W (hE.below (hb1 W hW)).signs m hm
    rw [hrd] at this
    exact this)
  have e2 : (toTt x).2 = x.text := rfl
  rw [e2, hrd]
  have HN := Lib.hid (show Calls Tryz.prog 135 #[pV B] w fun e w' => e = .returned (.agg #[.int .i64 x.kind, .string (Ep.txt x.text), .int .i64 x.at_]) ∧ Below w.heap.size w w' from HN.out)
  have HF := Lib.hid (show ∀ W, Below w.heap.size w W → Calls Tryz.prog 175 #[pV B, .int .i64 re] W fun r w' => r = .returned (.agg #[.int .i64 (p : Int), .int .i64 re]) ∧ Below W.heap.size W w' from fun W hW => fault_any (hz.below hW) re)
  have hp1 : p ≤ 1000 := by have := hL.1; omega
  have HLF := Lib.hid (show ∀ W, Below w.heap.size w W → Calls Tryz.prog 201 #[pV B, exV 1 0 rk rn (Ep.txt rs) ⟨#[]⟩ none 0 0] W fun e w' => e = .returned (.tuple #[]) ∧ Ps w' B (.slice A n c) (p + 1) (l ++ [.mk 1 0 rk rn rs [] []]) d ∧ Below B W w' from fun W hW => leaf_any (HP.out.below hW) hp1 (by omega) 1 0 rk rn rs [])
  have HB1 := Lib.hid hb1
  clear hv hr hz hpl hE hx hn hL hrd e2 hb1
  by_cases he : re = 0
  · subst he
    show Calls _ _ _ _ (Leaves1 w B (.slice A n c) l d (.ok (lit rk rn rs) (p + 1)))
    go_enter Tryz.func202, Tryz.ntmps202
    go_wp2_with (first
      | (go_at_call 135; (refine HN.out.mono ?_); rintro e' w1 ⟨rfl, h1⟩; have H1 := Lib.hid h1; clear h1)
      | (go_at_call 213; (refine (HV.out _ H1.out).mono ?_); rintro e' w2 ⟨rfl, h2⟩; have H2 := Lib.hid (al (Mem.on H1.out h2) (.cells #[.int .i64 rk, .int .i64 rn, .string (Ep.txt rs)] 29)); clear h2)
      | (go_at_call 201; (refine (HLF.out _ H2.out).mono ?_); rintro e' w3 ⟨rfl, h3, h4⟩; have H3 := Lib.hid (Leaves1.leaf ((HB1.out _ H2.out).trans h4) h3); clear h3 h4))
    go_end0
    exact H3.out
  · have t1 : (re == 0) = false := beq_no he
    show Calls _ _ _ _ (Leaves1 w B (.slice A n c) l d (if re = 0 then .ok (lit rk rn rs) (p + 1) else .err re p))
    rw [if_neg he]
    go_enter Tryz.func202, Tryz.ntmps202
    go_wp2_with (first
      | (go_at_call 135; (refine HN.out.mono ?_); rintro e' w1 ⟨rfl, h1⟩; have H1 := Lib.hid h1; clear h1)
      | (go_at_call 213; (refine (HV.out _ H1.out).mono ?_); rintro e' w2 ⟨rfl, h2⟩; have H2 := Lib.hid (al (Mem.on H1.out h2) (.cells #[.int .i64 rk, .int .i64 rn, .string (Ep.txt rs)] 29)); clear h2)
      | (go_at_call 175; (refine (HF.out _ H2.out).mono ?_); rintro e' w3 ⟨rfl, h3⟩; have H3 := Lib.hid (HB1.out _ (Mem.on H2.out h3)); clear h3))
    exact ⟨rfl, H3.out, rfl⟩
theorem nullOrNot_not (h : Ps w B (.slice A n c) p l d) (hE : Env w B A L) (hL : Rts L) (hn : n = L.length) (hp : p < L.length) (h1 : isT (Ts L) p kNOT = true) (h2 : isT (Ts L) (p + 1) Val.wNull = true) :
    Calls Tryz.prog 139 #[pV B] w fun e w' => e = .returned (.int .i64 4) ∧ Ps w' B (.slice A n c) (p + 2) l d ∧ Below B w w' := by
  have hp2 : p + 1 < L.length := by have := hL.2.2.isT (by rw [Ts_len]; exact hp) h1; rwa [Ts_len] at this
  have HS := Lib.hid (show Calls Tryz.prog 104 #[pV B, .string ⟨#[78, 79, 84]⟩] w fun e w' => e = .returned (.bool true) ∧ Ps w' B (.slice A n c) (p + 1) l d ∧ Below B w w' from skip_is h hE hL hn hp (k := kNOT) (by decide) h1)
  have HM := Lib.hid (show ∀ W, Ps W B (.slice A n c) (p + 1) l d → Below B w W → Calls Tryz.prog 166 #[pV B, .string ⟨#[78, 85, 76, 76]⟩] W fun e w' => e = .returned (.tuple #[]) ∧ Ps w' B (.slice A n c) (p + 1 + 1) l d ∧ Below B W w' from fun W hW hb => must_is hW (hE.below hb) hL hn hp2 (k := Val.wNull) (by decide) h2)
  clear h hE hL hn hp h1 h2 hp2
  go_enter Tryz.func139, Tryz.ntmps139
  go_wp2_with (first
    | (go_at_call 104; (refine HS.out.mono ?_); rintro e' w1 ⟨rfl, h1, h2⟩; have H1 := Lib.hid h1; have H2 := Lib.hid h2; clear h1 h2)
    | (go_at_call 166; (refine (HM.out _ H1.out H2.out).mono ?_); rintro e' w2 ⟨rfl, h1, h2⟩; have H3 := Lib.hid h1; have H4 := Lib.hid (H2.out.trans h2); clear h1 h2))
  go_ret
  exact ⟨rfl, H3.out, H4.out⟩
theorem nullOrNot_yes (h : Ps w B (.slice A n c) p l d) (hE : Env w B A L) (hL : Rts L) (hn : n = L.length) (hp : p < L.length) (h1 : isT (Ts L) p kNOT = false) (h2 : isT (Ts L) p Val.wNull = true) :
    Calls Tryz.prog 139 #[pV B] w fun e w' => e = .returned (.int .i64 3) ∧ Ps w' B (.slice A n c) (p + 1) l d ∧ Below B w w' := by
  have HS := Lib.hid (show Calls Tryz.prog 104 #[pV B, .string ⟨#[78, 79, 84]⟩] w fun e w' => e = .returned (.bool false) ∧ Ps w' B (.slice A n c) p l d ∧ Below B w w' from skip_not h hE hL hn hp (k := kNOT) (by decide) h1)
  have HM := Lib.hid (show ∀ W, Ps W B (.slice A n c) p l d → Below B w W → Calls Tryz.prog 166 #[pV B, .string ⟨#[78, 85, 76, 76]⟩] W fun e w' => e = .returned (.tuple #[]) ∧ Ps w' B (.slice A n c) (p + 1) l d ∧ Below B W w' from fun W hW hb => must_is hW (hE.below hb) hL hn hp (k := Val.wNull) (by decide) h2)
  clear h hE hL hn hp h1 h2
  go_enter Tryz.func139, Tryz.ntmps139
  go_wp2_with (first
    | (go_at_call 104; (refine HS.out.mono ?_); rintro e' w1 ⟨rfl, h1, h2⟩; have H1 := Lib.hid h1; have H2 := Lib.hid h2; clear h1 h2)
    | (go_at_call 166; (refine (HM.out _ H1.out H2.out).mono ?_); rintro e' w2 ⟨rfl, h1, h2⟩; have H3 := Lib.hid h1; have H4 := Lib.hid (H2.out.trans h2); clear h1 h2))
  go_ret
  exact ⟨rfl, H3.out, H4.out⟩
/-- At q it gives up: NULL is missing. -/
theorem nullOrNot_no (h : Ps w B (.slice A n c) p l d) (hE : Env w B A L) (hL : Rts L) (hn : n = L.length) (hp : p < L.length) (q : Nat) (hq : (isT (Ts L) p kNOT = true ∧ q = p + 1) ∨ (isT (Ts L) p kNOT = false ∧ q = p)) (h2 : isT (Ts L) q Val.wNull = false) :
    Calls Tryz.prog 139 #[pV B] w fun e w' => e = gaveUp 16 q ∧ Below B w w' := by
  rcases hq with ⟨h1, rfl⟩ | ⟨h1, rfl⟩
  · have hp2 : p + 1 < L.length := by have := hL.2.2.isT (by rw [Ts_len]; exact hp) h1; rwa [Ts_len] at this
    have HS := Lib.hid (show Calls Tryz.prog 104 #[pV B, .string ⟨#[78, 79, 84]⟩] w fun e w' => e = .returned (.bool true) ∧ Ps w' B (.slice A n c) (p + 1) l d ∧ Below B w w' from skip_is h hE hL hn hp (k := kNOT) (by decide) h1)
    have HM := Lib.hid (show ∀ W, Ps W B (.slice A n c) (p + 1) l d → Below B w W → Calls Tryz.prog 166 #[pV B, .string ⟨#[78, 85, 76, 76]⟩] W fun e w' => e = gaveUp 16 (p + 1) ∧ Below B W w' from fun W hW hb => must_not hW (hE.below hb) hL hn hp2 (k := Val.wNull) (by decide) h2)
    clear h hE hL hn hp h1 h2 hp2
    go_enter Tryz.func139, Tryz.ntmps139
    go_wp2_with (first
      | (go_at_call 104; (refine HS.out.mono ?_); rintro e' w1 ⟨rfl, h1, h2⟩; have H1 := Lib.hid h1; have H2 := Lib.hid h2; clear h1 h2)
      | (go_at_call 166; (refine (HM.out _ H1.out H2.out).mono ?_); rintro e' w2 ⟨he, h2⟩; unfold gaveUp at he; subst he; have H4 := Lib.hid (H2.out.trans h2); clear h2))
    exact ⟨rfl, rfl, H4.out⟩
  · have HS := Lib.hid (show Calls Tryz.prog 104 #[pV B, .string ⟨#[78, 79, 84]⟩] w fun e w' => e = .returned (.bool false) ∧ Ps w' B (.slice A n c) q l d ∧ Below B w w' from skip_not h hE hL hn hp (k := kNOT) (by decide) h1)
    have HM := Lib.hid (show ∀ W, Ps W B (.slice A n c) q l d → Below B w W → Calls Tryz.prog 166 #[pV B, .string ⟨#[78, 85, 76, 76]⟩] W fun e w' => e = gaveUp 16 q ∧ Below B W w' from fun W hW hb => must_not hW (hE.below hb) hL hn hp (k := Val.wNull) (by decide) h2)
    clear h hE hL hn hp h1 h2
    go_enter Tryz.func139, Tryz.ntmps139
    go_wp2_with (first
      | (go_at_call 104; (refine HS.out.mono ?_); rintro e' w1 ⟨rfl, h1, h2⟩; have H1 := Lib.hid h1; have H2 := Lib.hid h2; clear h1 h2)
      | (go_at_call 166; (refine (HM.out _ H1.out H2.out).mono ?_); rintro e' w2 ⟨he, h2⟩; unfold gaveUp at he; subst he; have H4 := Lib.hid (H2.out.trans h2); clear h2))
    exact ⟨rfl, rfl, H4.out⟩
end
end Go.Proofs.YtlkmhdbmcfblkaaGreatDoor.Ep
