/- How high a tree is, whether it is right, whether two are one, whether it has few parts: by Small words for walks over numbers and texts. For every layer. A kid of a tree, cell by cell, as the walk spells its places; texts' sizes. Worlds that have grown but for one block: what stays. Dump-free. A block's cells; a block's type. For every layer (the same words as layer 6's, standing al Whole structs out of boxes and into them; all stands but these blocks. For every layer (th -/
import Derived.Test.YtbdippgamlknbaaDoorKs02
import Derived.WalkKit
import Derived.WalkSpells
import Derived.WalkLawsBesides
import Derived.Lib.Hide
import Derived.Lib.IndexBytes
import Derived.Test.YtbdippgamlknbaaDoorRows
import Derived.Test.YtbdippgamlknbaaDoorKs03
import Derived.Test.YtbdippgamlknbaaDoorKs06
import Derived.Laws.Rows
import Derived.Laws.NewBlocks
import Derived.Deep.MidRow
import Derived.Laws.ResultCell
import Derived.ProofKit
import Derived.Test.YtbdippgamlknbaaDoorKs05
namespace Go.Proofs.YtbdippgamlknbaaDoor.Ep
open Go.Proofs.YtbdippgamlknbaaDoor.Lx
set_option linter.unusedVariables false
mutual
def hgt : Ex → Nat
  | .mk _ _ _ _ _ _ kids => hgtL kids + 1
/-- The greatest height of these. -/
def hgtL : List Ex → Nat
  | [] => 0
  | x :: l => max (hgt x) (hgtL l)
end
theorem hgt_mk (k o vk vn : Int) (vs nm : List UInt8) (kids : List Ex) : hgt (.mk k o vk vn vs nm kids) = hgtL kids + 1 := by rw [hgt]
theorem hgtL_cons (x : Ex) (l : List Ex) : hgtL (x :: l) = max (hgt x) (hgtL l) := by rw [hgtL]
theorem hgtL_app : ∀ (a b : List Ex), hgtL (a ++ b) = max (hgtL a) (hgtL b)
  | [], b => by rw [List.nil_append, show hgtL [] = 0 by rw [hgtL]]; omega
  | x :: a, b => by rw [List.cons_append, hgtL_cons, hgtL_cons, hgtL_app a b]; omega
theorem hgtL_snoc (l : List Ex) (x : Ex) : hgtL (l ++ [x]) = max (hgtL l) (hgt x) := by
  rw [hgtL_app, hgtL_cons, show hgtL [] = 0 by rw [hgtL]]; omega
theorem hgtL_mem : ∀ {l : List Ex} {x : Ex}, x ∈ l → hgt x ≤ hgtL l
  | y :: l, x, h => by
    rw [hgtL_cons]
    rcases List.mem_cons.1 h with rfl | h
    · omega
    · have := hgtL_mem h; omega
theorem hgt_pos (e : Ex) : 1 ≤ hgt e := by
  obtain ⟨k, o, vk, vn, vs, nm, kids⟩ := e
  rw [hgt_mk]; omega
/-- Are the fields of one part as they must be, which has so many kids? -/
def headB (slots : Bool) (k o vk vn : Int) (vs nm : List UInt8) (n : Nat) : Bool :=
  if (k ≠ 1 ∧ ¬ (vk = 0 ∧ vn = 0 ∧ vs = [])) ∨ (k ≠ 2 ∧ k ≠ 7 ∧ nm ≠ []) then false
  else if (k = 1 ∨ k = 2 ∨ k = 6 ∨ k = 7) ∧ o ≠ 0 then false
  else if k = 1 then decide (n = 0) && Val.okV vk vn vs && decide (¬ (vk = 1 ∧ vn < 0))
  else if k = 2 then decide (n = 0) && decide (kindOf nm = 1)
  else if k = 3 then decide (n = 0 ∧ 1 ≤ o ∧ o ≤ 6)
  else if k = 4 then decide (n = 1 ∧ 1 ≤ o ∧ o ≤ 4)
  else if k = 5 then decide (n = 2 ∧ 1 ≤ o ∧ o ≤ 14)
  else if k = 6 then decide (2 ≤ n ∧ n ≤ 9)
  else if k = 7 then decide ((nm = nCoal ∧ 1 ≤ n ∧ n ≤ 4) ∨ ((nm = nLen ∨ nm = nAbs) ∧ n = 1))
  else if k = 8 then slots && decide (n = 0 ∧ 0 ≤ o ∧ o ≤ 5)
  else false
mutual
def rightB (slots : Bool) : Ex → Bool
  | .mk k o vk vn vs nm kids => rightL slots kids && headB slots k o vk vn vs nm kids.length
def rightL (slots : Bool) : List Ex → Bool
  | [] => true
  | x :: l => rightB slots x && rightL slots l
end
theorem rightB_mk (slots : Bool) (k o vk vn : Int) (vs nm : List UInt8) (kids : List Ex) : rightB slots (.mk k o vk vn vs nm kids) = (rightL slots kids && headB slots k o vk vn vs nm kids.length) := by rw [rightB]
theorem rightL_iff {slots : Bool} : ∀ {l : List Ex}, rightL slots l = true ↔ ∀ x ∈ l, rightB slots x = true
  | [] => by rw [rightL]; simp
  | x :: l => by rw [rightL, Bool.and_eq_true, rightL_iff]; simp
/-- Check's error. -/
def checkE (slots : Bool) (e : Ex) : Int := if 8 < hgt e then 17 else if rightB slots e = true then 0 else 2
/-- What is right, form by form (slots: a place in a row). -/
inductive Rs (slots : Bool) : Ex → Prop
  | lit {k n : Int} {s : List UInt8} : Val.okV k n s = true → (k = 1 → 0 ≤ n) → Rs slots (lit k n s)
  | col {nm : List UInt8} : kindOf nm = 1 → Rs slots (col nm)
  | par {o : Int} : 1 ≤ o → o ≤ 6 → Rs slots (par o)
  | un {o : Int} {a : Ex} : 1 ≤ o → o ≤ 4 → Rs slots a → Rs slots (un o a)
  | bin {o : Int} {a b : Ex} : 1 ≤ o → o ≤ 14 → Rs slots a → Rs slots b → Rs slots (bin o a b)
  | inn {a : Ex} {l : List Ex} : l ≠ [] → l.length ≤ 8 → Rs slots a → (∀ x ∈ l, Rs slots x) → Rs slots (inn (a :: l))
  | call {nm : List UInt8} {l : List Ex} : l ≠ [] → (nm = nCoal ∧ l.length ≤ 4 ∨ (nm = nLen ∨ nm = nAbs) ∧ l.length ≤ 1) → (∀ x ∈ l, Rs slots x) → Rs slots (call nm l)
  | slot {o : Int} : slots = true → 0 ≤ o → o ≤ 5 → Rs slots (.mk 8 o 0 0 [] [] [])
/-- A part's fields say its form. -/
theorem head_form {slots : Bool} {k o vk vn : Int} {vs nm : List UInt8} {kids : List Ex} (h : headB slots k o vk vn vs nm kids.length = true) (hk : ∀ x ∈ kids, Rs slots x) : Rs slots (.mk k o vk vn vs nm kids) := by
  unfold headB at h
  by_cases c1 : (k ≠ 1 ∧ ¬ (vk = 0 ∧ vn = 0 ∧ vs = [])) ∨ (k ≠ 2 ∧ k ≠ 7 ∧ nm ≠ [])
  · rw [if_pos c1] at h; cases h
  rw [if_neg c1] at h
  by_cases c2 : (k = 1 ∨ k = 2 ∨ k = 6 ∨ k = 7) ∧ o ≠ 0
  · rw [if_pos c2] at h; cases h
  rw [if_neg c2] at h
  have hv : k ≠ 1 → vk = 0 ∧ vn = 0 ∧ vs = [] := fun g => Classical.byContradiction fun g' => c1 (.inl ⟨g, g'⟩)
  have hn : k ≠ 2 → k ≠ 7 → nm = [] := fun g g2 => Classical.byContradiction fun g' => c1 (.inr ⟨g, g2, g'⟩)
  have ho : k = 1 ∨ k = 2 ∨ k = 6 ∨ k = 7 → o = 0 := fun g => Classical.byContradiction fun g' => c2 ⟨g, g'⟩
  by_cases k1 : k = 1
  · rw [if_pos k1] at h
    simp only [Bool.and_eq_true, decide_eq_true_eq] at h
    obtain ⟨⟨g1, g2⟩, g3⟩ := h
    obtain rfl := List.length_eq_zero_iff.1 g1
    obtain rfl := ho (.inl k1)
    obtain rfl := hn (by omega) (by omega)
    subst k1
    exact .lit g2 (by omega)
  rw [if_neg k1] at h
  obtain ⟨rfl, rfl, rfl⟩ := hv k1
  by_cases k2 : k = 2
  · rw [if_pos k2] at h
    simp only [Bool.and_eq_true, decide_eq_true_eq] at h
    obtain rfl := List.length_eq_zero_iff.1 h.1
    obtain rfl := ho (.inr (.inl k2))
    subst k2
    exact .col h.2
  rw [if_neg k2] at h
  by_cases k3 : k = 3
  · rw [if_pos k3] at h
    simp only [decide_eq_true_eq] at h
    obtain rfl := List.length_eq_zero_iff.1 h.1
    obtain rfl := hn k2 (by omega)
    subst k3
    exact .par h.2.1 h.2.2
  rw [if_neg k3] at h
  by_cases k4 : k = 4
  · rw [if_pos k4] at h
    simp only [decide_eq_true_eq] at h
    obtain rfl := hn k2 (by omega)
    obtain ⟨a, rfl⟩ := List.length_eq_one_iff.1 h.1
    subst k4
    exact .un h.2.1 h.2.2 (hk a (by simp))
  rw [if_neg k4] at h
  by_cases k5 : k = 5
  · rw [if_pos k5] at h
    simp only [decide_eq_true_eq] at h
    obtain rfl := hn k2 (by omega)
    subst k5
    match kids, h with
    | [a, b], h => exact .bin h.2.1 h.2.2 (hk a (by simp)) (hk b (by simp))
    | [], h => simp at h
    | [a], h => simp at h
    | a :: b :: c :: l, h => simp at h
  rw [if_neg k5] at h
  by_cases k6 : k = 6
  · rw [if_pos k6] at h
    simp only [decide_eq_true_eq] at h
    obtain rfl := hn k2 (by omega)
    obtain rfl := ho (.inr (.inr (.inl k6)))
    subst k6
    match kids, h with
    | a :: b :: l, h =>
      simp at h
      exact .inn (by simp) (by simp; omega) (hk a (by simp)) fun x hx => hk x (List.mem_cons_of_mem _ hx)
    | [a], h => simp at h
    | [], h => simp at h
  rw [if_neg k6] at h
  by_cases k7 : k = 7
  · rw [if_pos k7] at h
    simp only [decide_eq_true_eq] at h
    obtain rfl := ho (.inr (.inr (.inr k7)))
    subst k7
    refine .call ?_ ?_ hk
    · rintro rfl
      simp at h
    · rcases h with ⟨g1, g2, g3⟩ | ⟨g1, g2⟩
      · exact .inl ⟨g1, g3⟩
      · exact .inr ⟨g1, by omega⟩
  rw [if_neg k7] at h
  by_cases k8 : k = 8
  · rw [if_pos k8] at h
    simp only [Bool.and_eq_true, decide_eq_true_eq] at h
    obtain rfl := List.length_eq_zero_iff.1 h.2.1
    obtain rfl := hn k2 k7
    subst k8
    exact .slot h.1 h.2.2.1 h.2.2.2
  · rw [if_neg k8] at h; cases h
theorem rs_of {slots : Bool} : ∀ e : Ex, rightB slots e = true → Rs slots e := by
  refine Ex.byKids fun k o vk vn vs nm kids ih h => ?_
  rw [rightB_mk, Bool.and_eq_true, rightL_iff] at h
  exact head_form h.2 fun x hx => ih x hx (h.1 x hx)
theorem rightB_of {slots : Bool} {e : Ex} (h : Rs slots e) : rightB slots e = true := by
  induction h with
  | @lit k n s h1 h2 =>
    unfold lit
    rw [rightB_mk, rightL, Bool.true_and]
    unfold headB
    rw [if_neg (by simp), if_neg (by simp), if_pos rfl, h1]
    simp
    omega
  | @col nm h =>
    unfold col
    rw [rightB_mk, rightL, Bool.true_and]
    unfold headB
    rw [if_neg (by simp), if_neg (by simp), if_neg (by decide), if_pos rfl]
    simp [h]
  | @par o h1 h2 =>
    unfold par
    rw [rightB_mk, rightL, Bool.true_and]
    unfold headB
    rw [if_neg (by simp), if_neg (by omega), if_neg (by decide), if_neg (by decide), if_pos rfl]
    simp [h1, h2]
  | @un o a h1 h2 h ih =>
    unfold un
    rw [rightB_mk, rightL, rightL, ih, Bool.true_and, Bool.true_and]
    unfold headB
    rw [if_neg (by simp), if_neg (by omega), if_neg (by decide), if_neg (by decide), if_neg (by decide), if_pos rfl]
    simp [h1, h2]
  | @bin o a b h1 h2 h h' ih ih' =>
    unfold bin
    rw [rightB_mk, rightL, rightL, rightL, ih, ih', Bool.true_and, Bool.true_and, Bool.true_and]
    unfold headB
    rw [if_neg (by simp), if_neg (by omega), if_neg (by decide), if_neg (by decide), if_neg (by decide), if_neg (by decide), if_pos rfl]
    simp [h1, h2]
  | @inn a l h1 h2 h h' ih ih' =>
    unfold inn
    rw [rightB_mk, rightL, ih, rightL_iff.2 ih', Bool.true_and, Bool.true_and]
    unfold headB
    rw [if_neg (by simp), if_neg (by simp), if_neg (by decide), if_neg (by decide), if_neg (by decide), if_neg (by decide), if_neg (by decide), if_pos rfl]
    have : l.length ≠ 0 := fun g => h1 (List.length_eq_zero_iff.1 g)
    simp
    omega
  | @call nm l h1 h2 h ih =>
    unfold call
    rw [rightB_mk, rightL_iff.2 ih, Bool.true_and]
    unfold headB
    rw [if_neg (by simp), if_neg (by simp), if_neg (by decide), if_neg (by decide), if_neg (by decide), if_neg (by decide), if_neg (by decide), if_neg (by decide), if_pos rfl]
    have : l.length ≠ 0 := fun g => h1 (List.length_eq_zero_iff.1 g)
    rw [decide_eq_true_eq]
    rcases h2 with ⟨g1, g2⟩ | ⟨g1, g2⟩
    · exact .inl ⟨g1, by omega, g2⟩
    · exact .inr ⟨g1, by omega⟩
  | @slot o hs h1 h2 =>
    rw [rightB_mk, rightL, Bool.true_and]
    unfold headB
    rw [if_neg (by simp), if_neg (by omega), if_neg (by decide), if_neg (by decide), if_neg (by decide), if_neg (by decide), if_neg (by decide), if_neg (by decide), if_neg (by decide), if_pos rfl]
    simp [h1, h2, hs]
/-- Are its values' numbers as a machine has them? -/
def i64n (n : Int) : Prop := -9223372036854775808 ≤ n ∧ n ≤ 9223372036854775807
mutual
def Wide : Ex → Prop
  | .mk k o vk vn vs nm kids => i64n vn ∧ WideL kids
def WideL : List Ex → Prop
  | [] => True
  | x :: l => Wide x ∧ WideL l
end
theorem wideL_iff : ∀ {l : List Ex}, WideL l ↔ ∀ x ∈ l, Wide x
  | [] => by rw [WideL]; simp
  | x :: l => by rw [WideL, wideL_iff]; simp
theorem wide_mk (k o vk vn : Int) (vs nm : List UInt8) (kids : List Ex) : Wide (.mk k o vk vn vs nm kids) ↔ i64n vn ∧ ∀ x ∈ kids, Wide x := by rw [Wide, wideL_iff]
mutual
/-- How many parts are left of so many. -/
def cnt : Ex → Nat → Option Nat
  | .mk k o vk vn vs nm kids, n => if n = 0 ∨ 12 < kids.length ∨ 100 < nm.length ∨ 100 < vs.length then none else cntL kids (n - 1)
def cntL : List Ex → Nat → Option Nat
  | [], n => some n
  | x :: l, n => match cnt x n with
    | none => none
    | some m => cntL l m
end
mutual
def size : Ex → Nat
  | .mk _ _ _ _ _ _ kids => sizeL kids + 1
def sizeL : List Ex → Nat
  | [] => 0
  | x :: l => size x + sizeL l
end
mutual
theorem cnt_size : ∀ {e : Ex} {n m : Nat}, cnt e n = some m → size e + m = n
  | .mk k o vk vn vs nm kids, n, m, h => by
    rw [cnt] at h
    split at h
    · cases h
    · have := cntL_size h
      rw [size]; omega
theorem cntL_size : ∀ {l : List Ex} {n m : Nat}, cntL l n = some m → sizeL l + m = n
  | [], n, m, h => by
    rw [cntL] at h
    injection h with h
    rw [sizeL]; omega
  | x :: l, n, m, h => by
    rw [cntL] at h
    split at h
    · cases h
    · rename_i m' e
      have h1 := cnt_size e
      have h2 := cntL_size h
      rw [sizeL]; omega
end
mutual
theorem hgt_size : ∀ e : Ex, hgt e ≤ size e
  | .mk k o vk vn vs nm kids => by
    have := hgtL_size kids
    rw [hgt, size]; omega
theorem hgtL_size : ∀ l : List Ex, hgtL l ≤ sizeL l
  | [] => by rw [hgtL, sizeL]; omega
  | x :: l => by
    have h1 := hgt_size x
    have h2 := hgtL_size l
    rw [hgtL, sizeL]; omega
end
end Go.Proofs.YtbdippgamlknbaaDoor.Ep
namespace Go.Proofs.YtbdippgamlknbaaDoor.Right
open Go.RowKit Go.Proofs.YtbdippgamlknbaaDoor.Mem
set_option linter.unusedVariables false
theorem beq_no {a b : Int} (h : ¬ a = b) : (a == b) = false := beq_eq_false_iff_ne.2 h
theorem beq_yes {a b : Int} (h : a = b) : (a == b) = true := by simp [h]
theorem bne_no {a b : Int} (h : a = b) : (a != b) = false := by simp [h]
theorem bne_yes {a b : Int} (h : ¬ a = b) : (a != b) = true := by simp [h]
theorem ri {a b : Int} (h : a = b) : Ending.returned (.int .i64 a) = .returned (.int .i64 b) := by rw [h]
theorem rb {a b : Bool} (h : a = b) : Ending.returned (.bool a) = .returned (.bool b) := by rw [h]
theorem take_snoc (s : ByteArray) (k : Nat) (h : k < s.size) : s.data.toList.take (k + 1) = s.data.toList.take k ++ [s[k]] := by
  rw [List.take_succ_eq_append_getElem (by simpa using h)]; rfl
theorem take_all (s : ByteArray) : s.data.toList.take s.size = s.data.toList := List.take_of_length_le (by rw [Array.length_toList]; exact Nat.le_refl _)
theorem drop_byte (s : ByteArray) (k : Nat) (h : k < s.size) : s.data.toList.drop k = s[k] :: s.data.toList.drop (k + 1) := by
  have hk : k < s.data.toList.length := by rw [Array.length_toList]; exact h
  rw [List.drop_eq_getElem_cons hk]; rfl
theorem empty_or (s : ByteArray) : s = ⟨#[]⟩ ∨ (¬ s.data.toList = [] ∧ (s.toList == []) = false) := by
  by_cases h : s.data.toList = []
  · left; exact l_inj h
  · right; refine ⟨h, ?_⟩
    rw [Lib.toList_data]; simpa using h
end Go.Proofs.YtbdippgamlknbaaDoor.Right
namespace Go.Proofs.YtbdippgamlknbaaDoor.Ep
open Go.RowKit Go.Proofs.YtbdippgamlknbaaDoor.Mem Go.Proofs.YtbdippgamlknbaaDoor.Right
set_option linter.unusedVariables false
theorem txt_back (l : List UInt8) : (txt l).data.toList = l := rfl
/-- A tree as an argument. -/
abbrev exV (k o vk vn : Int) (vs nm : ByteArray) (A : Option Addr) (n c : Nat) : Value := .agg #[.int .i64 k, .int .i64 o, .int .i64 vk, .int .i64 vn, .string vs, .string nm, .slice A n c]
/-- The cells of a tree, its texts as the model has them. -/
theorem ex_open {w : World} {S : Nat → Prop} {k o vk vn : Int} {vs nm : List UInt8} {kids : List Ex} {cs : List Value} (h : ExIn w S (.mk k o vk vn vs nm kids) cs) :
    ∃ A n c, cs = [.int .i64 k, .int .i64 o, .int .i64 vk, .int .i64 vn, .string (txt vs), .string (txt nm), .slice A n c] ∧ n = kids.length ∧ kids.length ≤ c ∧ c ≤ maxLen ∧ (A = none → c = 0) ∧ KidsIn w S A 0 kids := by
  obtain ⟨A, c, h1, h2, h3, h4, h5⟩ := (exIn_mk _ _ _ _ _ _ _ _ _ _).1 h
  exact ⟨A, _, c, h1, rfl, h2, h3, h4, h5⟩
/-- A kid: seven cells, and what they lead to. -/
theorem kid_at {w : World} {S : Nat → Prop} {A : Option Addr} {kids : List Ex} {j : Nat} {x : Ex} (h : KidsIn w S A 0 kids) (hx : kids[j]? = some x) :
    ∃ k o vk vn vs nm ks A' n' c' b p, x = .mk k o vk vn vs nm ks ∧ A = some ⟨b, p, none⟩ ∧ S b ∧ n' = ks.length ∧
      w.cell? ⟨b, p + j * 7, none⟩ = some (.int .i64 k) ∧ w.cell? ⟨b, p + j * 7 + 1, none⟩ = some (.int .i64 o) ∧ w.cell? ⟨b, p + j * 7 + 2, none⟩ = some (.int .i64 vk) ∧ w.cell? ⟨b, p + j * 7 + 3, none⟩ = some (.int .i64 vn) ∧
      w.cell? ⟨b, p + j * 7 + 4, none⟩ = some (.string (txt vs)) ∧ w.cell? ⟨b, p + j * 7 + 5, none⟩ = some (.string (txt nm)) ∧ w.cell? ⟨b, p + j * 7 + 6, none⟩ = some (.slice A' n' c') ∧
      ExIn w S x [.int .i64 k, .int .i64 o, .int .i64 vk, .int .i64 vn, .string (txt vs), .string (txt nm), .slice A' n' c'] := by
  obtain ⟨b, p, cs, h1, h2, _, h3, h4⟩ := h.get hx
  obtain ⟨k, o, vk, vn, vs, nm, ks⟩ := x
  obtain ⟨A', n', c', rfl, h5, _⟩ := ex_open h4
  rw [show p + (0 + j) * 7 = p + j * 7 by omega] at h3
  exact ⟨k, o, vk, vn, vs, nm, ks, A', n', c', b, p, rfl, h1, h2, h5, h3 0 _ rfl, h3 1 _ rfl, h3 2 _ rfl, h3 3 _ rfl, h3 4 _ rfl, h3 5 _ rfl, h3 6 _ rfl, h4⟩
theorem drop_kid {l : List Ex} {j : Nat} {x : Ex} (h : l[j]? = some x) : l.drop j = x :: l.drop (j + 1) := by
  obtain ⟨hj, rfl⟩ := List.getElem?_eq_some_iff.1 h
  exact List.drop_eq_getElem_cons hj
theorem kid_mem {l : List Ex} {j : Nat} {x : Ex} (h : l[j]? = some x) : x ∈ l := List.mem_of_getElem? h
theorem kid_some {l : List Ex} {j : Nat} (h : j < l.length) : ∃ x, l[j]? = some x := ⟨_, List.getElem?_eq_getElem h⟩
theorem sizeL_mem : ∀ {l : List Ex} {x : Ex}, x ∈ l → size x ≤ sizeL l
  | y :: l, x, h => by
    rw [sizeL]
    rcases List.mem_cons.1 h with rfl | h
    · omega
    · have := sizeL_mem h; omega
theorem size_pos (e : Ex) : 1 ≤ size e := by
  obtain ⟨k, o, vk, vn, vs, nm, kids⟩ := e
  rw [size]; omega
theorem sizeL_len : ∀ (l : List Ex), l.length ≤ sizeL l
  | [] => by simp
  | x :: l => by
    have := sizeL_len l
    have := size_pos x
    rw [sizeL, List.length_cons]; omega
end Go.Proofs.YtbdippgamlknbaaDoor.Ep
namespace Go.Proofs.YtbdippgamlknbaaDoor.Mem
open Go.RowKit
set_option linter.unusedVariables false
theorem blk_lt {w : World} {g : Nat} {o : Obj} (h : w.heap[g]? = some o) : g < w.heap.size := by
  rcases Nat.lt_or_ge g w.heap.size with h2 | h2
  · exact h2
  · rw [Array.getElem?_eq_none h2] at h; cases h
theorem grown_below {w w' : World} {r : Option Nat} (h : Below w.heap.size w w') : w.grownBy w' r := ⟨h.os, h.tape, h.output, h.size, fun k hk _ => h.block k hk⟩
end Go.Proofs.YtbdippgamlknbaaDoor.Mem
namespace Go.Proofs.YtbdippgamlknbaaDoor.Mem
open Go.RowKit
set_option linter.unusedVariables false
theorem blk_set {w : World} {g : Nat} {cs : Array Value} {t : TypeId} (h : w.heap[g]? = some (.cells cs t (0, 0))) (i : Nat) (v : Value) : (w.setCell ⟨g, i, none⟩ v).heap[g]? = some (.cells (cs.setIfInBounds i v) t (0, 0)) := by
  show (w.heap.modify g _)[g]? = _
  rw [Array.getElem?_modify, h]
  simp
/-- Block B holds these cells, of type t. -/
def Cel (W : World) (B : Nat) (t : TypeId) (cs : Array Value) : Prop := W.heap[B]? = some (.cells cs t (0, 0))
theorem Cel.new (W : World) (t : TypeId) (cs : Array Value) {B : Nat} (hB : W.heap.size = B) : Cel (W.alloc (.cells cs t)) B t cs := by subst hB; exact heap_alloc_new W _
theorem Cel.lt {W : World} {B : Nat} {t : TypeId} {cs : Array Value} (h : Cel W B t cs) : B < W.heap.size := blk_lt h
theorem Cel.alloc {W : World} {B : Nat} {t : TypeId} {cs : Array Value} (h : Cel W B t cs) (o : Obj) : Cel (W.alloc o) B t cs := (Below.heap_alloc W o B (blk_lt h)).trans h
theorem Cel.below {W W' : World} {B : Nat} {t : TypeId} {cs : Array Value} (h : Cel W B t cs) (hb : Below W.heap.size W W') : Cel W' B t cs := (hb.block B (blk_lt h)).trans h
theorem Cel.at_ {W : World} {B : Nat} {t : TypeId} {cs : Array Value} (h : Cel W B t cs) (i : Nat) : W.cell? ⟨B, i, none⟩ = cs[i]? := cell_of_row W B i cs t _ h
theorem Cel.open_ {W : World} {B : Nat} {t : TypeId} {cs : Array Value} (h : Cel W B t cs) (i : Nat) : W.frozen? ⟨B, i, none⟩ = false := by
  have h' : W.heap[B]? = some (.cells cs t (0, 0)) := h
  simp only [World.frozen?, h']
  simp
theorem Cel.set {W : World} {B : Nat} {t : TypeId} {cs : Array Value} (h : Cel W B t cs) (i : Nat) (v : Value) : Cel (W.setCell ⟨B, i, none⟩ v) B t (cs.setIfInBounds i v) := blk_set h i v
theorem Cel.other {W : World} {B b : Nat} {t : TypeId} {cs : Array Value} (h : Cel W B t cs) (hb : b ≠ B) (i : Nat) (v : Value) : Cel (W.setCell ⟨b, i, none⟩ v) B t cs := by
  show (W.heap.modify b _)[B]? = _
  rw [Array.getElem?_modify, if_neg hb]; exact h
end Go.Proofs.YtbdippgamlknbaaDoor.Mem
namespace Go.Proofs.YtbdippgamlknbaaDoor.Mem
open Go.RowKit
set_option linter.unusedVariables false
section
variable {w w' W : World} {G G' : List Nat}
end
/-- Results: a struct in a box, and a value. -/
theorem res_cell_tmp {P : Program} {fn : Func} {p u : Tmp} {ty : TypeId} (h : fn.results = #[.cell p ty, .tmp u]) (tmps : Array Value) (w : World) (g : Nat) (cs : List Value) (d : TypeDesc)
    (hp : tmps.getD p undef = .pointer (some ⟨g, 0, none⟩)) (hc : Cel w g ty cs.toArray) (hu : P.underlying ty = some d) (hd : d.isRow = true) (hi : (P.info? ty).map (·.size) = some cs.length) (v : Value) (hv : tmps.getD u undef = v) :
    (results fn tmps).run P w = .ok (.tuple #[.agg cs.toArray, v]) w := by
  rw [results_cell_tmp h, hp, hv]
  have hr := run_loadVar_mid (P := P) w g 0 ty cs d (fun i v hv => by rw [Nat.zero_add, hc.at_ i]; simpa using hv) hu hd hi
  show ((loadVar ty ⟨g, 0, none⟩).run P w).andThen _ = _
  rw [hr]
  rfl
end Go.Proofs.YtbdippgamlknbaaDoor.Mem
