import Derived.Test.YtlkmhdbmcfblkaaGreatDoorNumMaths
import Derived.Lib.Replace
import Derived.Lib.IndexLaws
import Derived.Lib.IndexMore
import Derived.Lib.CountLaws
import Derived.Test.YtlkmhdbmcfblkaaGreatDoorLexMaths
/- Values: how texts are quoted and read again, in plain words. -/
namespace Go.Proofs.YtlkmhdbmcfblkaaGreatDoor.Val
open Go.Proofs.YtlkmhdbmcfblkaaGreatDoor.Num

/-- Each quote twice. -/
def q : List UInt8 → List UInt8
  | [] => []
  | c :: r => if c = 39 then 39 :: 39 :: q r else c :: q r
/-- Between quotes. -/
def quo (l : List UInt8) : List UInt8 := 39 :: (q l ++ [39])

theorem q_app : ∀ (a b : List UInt8), q (a ++ b) = q a ++ q b
  | [], b => rfl
  | c :: r, b => by
    by_cases h : c = 39
    · simp [q, h, q_app r b]
    · simp [q, h, q_app r b]
theorem q_len : ∀ (l : List UInt8), (q l).length = l.length + l.count 39
  | [] => rfl
  | c :: r => by
    by_cases h : c = 39
    · subst h; simp [q, q_len r]; omega
    · simp [q, h, q_len r]; omega
theorem q_le (l : List UInt8) : (q l).length ≤ 2 * l.length := by
  have := List.count_le_length (a := (39 : UInt8)) (l := l)
  rw [q_len]; omega
theorem quo_len (l : List UInt8) : (quo l).length = l.length + l.count 39 + 2 := by
  unfold quo; simp [q_len]
theorem q_free : ∀ {l : List UInt8}, 39 ∉ l → q l = l
  | [], _ => rfl
  | c :: r, h => by
    simp only [List.mem_cons, not_or] at h
    have hc : ¬ c = 39 := fun e => h.1 e.symm
    rw [q, if_neg hc, q_free h.2]
theorem parted : ∀ (l : List UInt8), 39 ∉ l ∨ ∃ a r, 39 ∉ a ∧ l = a ++ 39 :: r
  | [] => .inl (by simp)
  | c :: r => by
    by_cases hc : c = 39
    · subst hc; exact .inr ⟨[], r, by simp, rfl⟩
    · rcases parted r with h | ⟨a, b, ha, rfl⟩
      · left; simp only [List.mem_cons, not_or]; exact ⟨fun e => hc e.symm, h⟩
      · right; refine ⟨c :: a, b, ?_, rfl⟩
        simp only [List.mem_cons, not_or]; exact ⟨fun e => hc e.symm, ha⟩
theorem q_part (a r : List UInt8) (h : 39 ∉ a) : q (a ++ 39 :: r) = a ++ 39 :: 39 :: q r := by
  rw [q_app, q_free h]; simp [q]

theorem ne_of_notin {c : UInt8} {r : List UInt8} (h : 39 ∉ c :: r) : ¬ (39 : UInt8) = c ∧ 39 ∉ r := by
  simp only [List.mem_cons, not_or] at h; exact h

/-- Where the first quote stands. -/
theorem idx1_no : ∀ {l : List UInt8}, 39 ∉ l → Lib.index l [39] = -1
  | [], _ => rfl
  | c :: r, h => by
    obtain ⟨hc, hr⟩ := ne_of_notin h
    have e : ((39 : UInt8) == c) = false := by simpa using hc
    rw [Lib.index]; simp [List.isPrefixOf, e, idx1_no hr]
theorem idx1_yes : ∀ {a : List UInt8} (r : List UInt8), 39 ∉ a → Lib.index (a ++ 39 :: r) [39] = a.length
  | [], r, _ => by simp [Lib.index, List.isPrefixOf]
  | c :: a, r, h => by
    obtain ⟨hc, hr⟩ := ne_of_notin h
    have e : ((39 : UInt8) == c) = false := by simpa using hc
    have ih := idx1_yes r hr
    rw [List.cons_append, Lib.index]
    have e1 : (([39] : List UInt8).isPrefixOf (c :: (a ++ 39 :: r))) = false := by simp [List.isPrefixOf, e]
    rw [e1, ih]
    have e2 : ((a.length : Int) == -1) = false := by simp
    simp [e2]
theorem idx2_no : ∀ {l : List UInt8}, 39 ∉ l → Lib.index l [39, 39] = -1
  | [], _ => rfl
  | c :: r, h => by
    obtain ⟨hc, hr⟩ := ne_of_notin h
    have e : ((39 : UInt8) == c) = false := by simpa using hc
    rw [Lib.index]; simp [List.isPrefixOf, e, idx2_no hr]
theorem idx2_yes : ∀ {a : List UInt8} (r : List UInt8), 39 ∉ a → Lib.index (a ++ 39 :: 39 :: r) [39, 39] = a.length
  | [], r, _ => by simp [Lib.index, List.isPrefixOf]
  | c :: a, r, h => by
    obtain ⟨hc, hr⟩ := ne_of_notin h
    have e : ((39 : UInt8) == c) = false := by simpa using hc
    have ih := idx2_yes r hr
    rw [List.cons_append, Lib.index]
    have e1 : (([39, 39] : List UInt8).isPrefixOf (c :: (a ++ 39 :: 39 :: r))) = false := by simp [List.isPrefixOf, e]
    rw [e1, ih]
    have e2 : ((a.length : Int) == -1) = false := by simp
    simp [e2]

/-- Cut at the first quote. -/
theorem cut_no {l : List UInt8} (h : 39 ∉ l) : Lib.cut l [39] = (l, [], false) := by
  unfold Lib.cut; rw [idx1_no h]; simp
theorem cut_yes {a : List UInt8} (r : List UInt8) (h : 39 ∉ a) : Lib.cut (a ++ 39 :: r) [39] = (a, r, true) := by
  unfold Lib.cut; rw [idx1_yes r h]
  simp

theorem un_k : ∀ (n : Nat) (l : List UInt8), l.length ≤ n → Lib.replaceK [39, 39] [39] (Lib.count (q l) [39, 39]) (q l) = l := by
  intro n
  induction n with
  | zero =>
    intro l hl
    have : l = [] := List.eq_nil_of_length_eq_zero (by omega)
    subst this; rfl
  | succ n ih =>
    intro l hl
    rcases parted l with h | ⟨a, r, ha, rfl⟩
    · rw [q_free h, Lib.count_miss (idx2_no h)]; rfl
    · have hx := idx2_yes (q r) ha
      rw [q_part a r ha, Lib.count_hit (by simp) hx, Nat.add_comm 1, Lib.replaceK_hit _ _ _ _ _ hx]
      have hd : (a ++ 39 :: 39 :: q r).drop (a.length + ([39, 39] : List UInt8).length) = q r := by
        rw [List.drop_append]; simp
      rw [hd, ih r (by simp at hl; omega)]
      simp
/-- What is quoted twice comes back. -/
theorem un_q (l : List UInt8) : Lib.replaceAll (q l) [39, 39] [39] = l := by
  unfold Lib.replaceAll Lib.replace Lib.replaceNum
  have e : (([39, 39] : List UInt8) == [39]) = false := by decide
  rw [e, if_neg (by simp), if_pos (.inl (by omega))]
  exact un_k _ l (Nat.le_refl _)

/-- May all bytes stand in a text? -/
def pl (l : List UInt8) : Bool := l.all fun c => !(decide ((c.toNat : Int) < 32) || decide (126 < (c.toNat : Int)))
end Go.Proofs.YtlkmhdbmcfblkaaGreatDoor.Val
/- Values as texts and texts as values, in plain words; a right value comes back, and a text that is read is its value's. -/
namespace Go.Proofs.YtlkmhdbmcfblkaaGreatDoor.Val
open Go.Proofs.YtlkmhdbmcfblkaaGreatDoor.Num

def wNull : List UInt8 := [78, 85, 76, 76]
def wTrue : List UInt8 := [84, 82, 85, 69]
def wFalse : List UInt8 := [70, 65, 76, 83, 69]
/-- Is a value right? -/
def okV (k n : Int) (l : List UInt8) : Bool :=
  if k = 0 then decide (n = 0) && decide (l = []) else if k = 1 then decide (l = []) else if k = 2 then (decide (n = 0) || decide (n = 1)) && decide (l = [])
  else if k = 3 then decide (n = 0) && decide (l.length ≤ 32) && pl l else false
/-- A value as text. -/
def showV (k n : Int) (l : List UInt8) : List UInt8 :=
  if k = 0 then wNull else if k = 1 then dgz n else if k = 2 then (if n = 1 then wTrue else wFalse) else if k = 3 then quo l else []
def inner (l : List UInt8) : List UInt8 := (l.drop 1).take (l.length - 2)
def un (l : List UInt8) : List UInt8 := Lib.replaceAll l [39, 39] [39]
/-- What is read. -/
structure Got where
  k : Int
  n : Int
  s : List UInt8
  e : Int
def bad (e : Int) : Got := ⟨0, 0, [], e⟩
def rdT (l : List UInt8) : Got :=
  if l.length < 2 then bad 12 else if quo (un (inner l)) = l ∧ pl (un (inner l)) = true then (if 32 < (un (inner l)).length then bad 3 else ⟨3, 0, un (inner l), 0⟩) else bad 12
def rdN (n e : Int) : Got := if e = 0 then ⟨1, n, [], 0⟩ else bad e
def rd (l : List UInt8) : Got :=
  if l = wNull then ⟨0, 0, [], 0⟩ else if l = wTrue then ⟨2, 1, [], 0⟩ else if l = wFalse then ⟨2, 0, [], 0⟩ else if l.head? = some 39 then rdT l else rdN (readV l) (readE l)

theorem inner_quo (l : List UInt8) : inner (quo l) = q l := by
  unfold inner quo
  simp
theorem un_inner (l : List UInt8) : un (inner (quo l)) = l := by rw [inner_quo]; exact un_q l
theorem dgz_head {a : Int} {c : UInt8} (h : (dgz a).head? = some c) : c = 45 ∨ isd c = true := by
  unfold dgz at h
  split at h
  · left; simpa using h.symm
  · right
    have ha := dg_alld a.natAbs a.natAbs (Nat.le_refl _)
    match hd : dg a.natAbs, h, ha with
    | x :: r, h, ha =>
      simp only [alld, Bool.and_eq_true] at ha
      simp at h; rw [← h]; exact ha.1
theorem dgz_not {a : Int} {l : List UInt8} {c : UInt8} (hl : l.head? = some c) (h1 : c ≠ 45) (h2 : isd c = false) : dgz a ≠ l := by
  intro e
  rw [← e] at hl
  rcases dgz_head hl with h | h
  · exact h1 h
  · rw [h2] at h; cases h

/-- A right value comes back from its text. -/
theorem back_value {k n : Int} {l : List UInt8} (hn : -9223372036854775808 ≤ n) (hn' : n ≤ 9223372036854775807) (h : okV k n l = true) : rd (showV k n l) = ⟨k, n, l, 0⟩ := by
  unfold okV at h
  unfold showV
  by_cases k0 : k = 0
  · subst k0
    simp only [↓reduceIte, Bool.and_eq_true, decide_eq_true_eq] at h
    obtain ⟨rfl, rfl⟩ := h
    rfl
  · rw [if_neg k0] at h ⊢
    by_cases k1 : k = 1
    · subst k1
      simp only [↓reduceIte, decide_eq_true_eq] at h
      subst h
      rw [if_pos rfl]
      unfold rd
      rw [if_neg (dgz_not (c := 78) rfl (by decide) (by decide)), if_neg (dgz_not (c := 84) rfl (by decide) (by decide)), if_neg (dgz_not (c := 70) rfl (by decide) (by decide)), if_neg ?_]
      · obtain ⟨h1, h2⟩ := back_num hn hn'
        rw [h1, h2]; rfl
      · intro e
        rcases dgz_head e with h | h
        · exact absurd h (by decide)
        · exact absurd h (by decide)
    · rw [if_neg k1] at h ⊢
      by_cases k2 : k = 2
      · subst k2
        simp only [↓reduceIte, Bool.and_eq_true, Bool.or_eq_true, decide_eq_true_eq] at h
        obtain ⟨h | h, rfl⟩ := h
        · subst h; rfl
        · subst h; rfl
      · rw [if_neg k2] at h ⊢
        by_cases k3 : k = 3
        · subst k3
          simp only [↓reduceIte, Bool.and_eq_true, decide_eq_true_eq] at h
          obtain ⟨⟨rfl, hl⟩, hp⟩ := h
          rw [if_pos rfl]
          unfold rd
          rw [if_neg (by unfold quo wNull; simp), if_neg (by unfold quo wTrue; simp), if_neg (by unfold quo wFalse; simp), if_pos (show (quo l).head? = some 39 from rfl)]
          unfold rdT
          rw [un_inner, if_neg (by rw [quo_len]; omega), if_pos ⟨rfl, hp⟩, if_neg (by omega)]
        · rw [if_neg k3] at h; cases h
/-- A text that is read is its value's, and that is right. -/
theorem back_read {l : List UInt8} (h : (rd l).e = 0) : okV (rd l).k (rd l).n (rd l).s = true ∧ showV (rd l).k (rd l).n (rd l).s = l := by
  unfold rd at h ⊢
  by_cases h1 : l = wNull
  · simp only [if_pos h1]; exact ⟨rfl, h1.symm⟩
  · rw [if_neg h1] at h ⊢
    by_cases h2 : l = wTrue
    · simp only [if_pos h2]; exact ⟨rfl, h2.symm⟩
    · rw [if_neg h2] at h ⊢
      by_cases h3 : l = wFalse
      · simp only [if_pos h3]; exact ⟨rfl, h3.symm⟩
      · rw [if_neg h3] at h ⊢
        by_cases h4 : l.head? = some 39
        · rw [if_pos h4] at h ⊢
          unfold rdT at h ⊢
          by_cases h5 : l.length < 2
          · rw [if_pos h5] at h; exact absurd h (by unfold bad; simp)
          · rw [if_neg h5] at h ⊢
            by_cases h6 : quo (un (inner l)) = l ∧ pl (un (inner l)) = true
            · rw [if_pos h6] at h ⊢
              by_cases h7 : 32 < (un (inner l)).length
              · rw [if_pos h7] at h; exact absurd h (by unfold bad; simp)
              · rw [if_neg h7]
                refine ⟨?_, h6.1⟩
                unfold okV
                simp only [h6.2, Bool.and_true]
                simp
                omega
            · rw [if_neg h6] at h; exact absurd h (by unfold bad; simp)
        · rw [if_neg h4] at h ⊢
          unfold rdN at h ⊢
          by_cases h5 : readE l = 0
          · rw [if_pos h5]
            exact ⟨rfl, back_text h5⟩
          · rw [if_neg h5] at h; exact absurd h h5
end Go.Proofs.YtlkmhdbmcfblkaaGreatDoor.Val
/- Expressions as trees, in the document's words: their rank, which are right, and of which tokens and blanks their text is made. -/
namespace Go.Proofs.YtlkmhdbmcfblkaaGreatDoor.Ep
open Go.Proofs.YtlkmhdbmcfblkaaGreatDoor.Lx
set_option linter.unusedVariables false

/-- Kind, sign, value (kind, number, text), name, kids. -/
inductive Ex where
  | mk (k o vk vn : Int) (vs nm : List UInt8) (kids : List Ex)
instance : Inhabited Ex := ⟨.mk 0 0 0 0 [] [] []⟩
/-- A tree by its kids. -/
theorem Ex.byKids {C : Ex → Prop} (h : ∀ k o vk vn vs nm kids, (∀ x ∈ kids, C x) → C (.mk k o vk vn vs nm kids)) : ∀ e, C e := by
  intro e
  refine Ex.rec (motive_1 := C) (motive_2 := fun l => ∀ x ∈ l, C x) ?_ ?_ ?_ e
  · intro k o vk vn vs nm kids ih
    exact h k o vk vn vs nm kids ih
  · intro x hx; simp at hx
  · intro a l ha hl x hx
    rcases List.mem_cons.1 hx with rfl | hx
    · exact ha
    · exact hl x hx
/-- The rank of a kind and a sign. -/
def rk (k o : Int) : Nat :=
  if k = 6 then 4 else if k = 4 then (if o = 1 then 7 else if o = 2 then 3 else 4) else if k ≠ 5 then 8
  else if o = 1 then 1 else if o = 2 then 2 else if o = 9 ∨ o = 10 ∨ o = 14 then 5 else if o = 11 ∨ o = 12 ∨ o = 13 then 6 else 4
def Ex.rank : Ex → Nat
  | .mk k o _ _ _ _ _ => rk k o
def un (o : Int) (a : Ex) : Ex := .mk 4 o 0 0 [] [] [a]
def bin (o : Int) (a b : Ex) : Ex := .mk 5 o 0 0 [] [] [a, b]
def inn (l : List Ex) : Ex := .mk 6 0 0 0 [] [] l
def call (nm : List UInt8) (l : List Ex) : Ex := .mk 7 0 0 0 [] nm l
def lit (k n : Int) (s : List UInt8) : Ex := .mk 1 0 k n s [] []
def col (nm : List UInt8) : Ex := .mk 2 0 0 0 [] nm []
def par (o : Int) : Ex := .mk 3 o 0 0 [] [] []

/-! ### Words -/
def kOR : List UInt8 := [79, 82]
def kAND : List UInt8 := [65, 78, 68]
def kNOT : List UInt8 := [78, 79, 84]
def kIS : List UInt8 := [73, 83]
def kIN : List UInt8 := [73, 78]
def kCOAL : List UInt8 := [67, 79, 65, 76, 69, 83, 67, 69]
def kLEN : List UInt8 := [76, 69, 78, 71, 84, 72]
def kABS : List UInt8 := [65, 66, 83]
def nCoal : List UInt8 := [99, 111, 97, 108, 101, 115, 99, 101]
def nLen : List UInt8 := [108, 101, 110, 103, 116, 104]
def nAbs : List UInt8 := [97, 98, 115]
/-- A sign's text. -/
def sg (o : Int) : List UInt8 :=
  if o = 1 then kOR else if o = 2 then kAND else if o = 3 then [61] else if o = 4 then [60, 62] else if o = 5 then [60] else if o = 6 then [60, 61] else if o = 7 then [62] else if o = 8 then [62, 61]
  else if o = 9 then [43] else if o = 10 then [45] else if o = 11 then [42] else if o = 12 then [47] else if o = 13 then [37] else [124, 124]
/-- Kind and text of a token. -/
abbrev Tt := Nat × List UInt8
def key (l : List UInt8) : Tt := (2, l)
def sgn6 (c : UInt8) : Tt := (6, [c])
def sgT (o : Int) : Tt := if o = 1 ∨ o = 2 then (2, sg o) else (6, sg o)
def valT (k n : Int) (s : List UInt8) : Tt := (if k = 1 then 3 else if k = 3 then 4 else 2, Val.showV k n s)
def parT (o : Int) : Tt := (5, [36, UInt8.ofNat (48 + o.toNat)])
def callT (nm : List UInt8) : Tt := key (if nm = nCoal then kCOAL else if nm = nLen then kLEN else kABS)
/-- A token, or a blank. -/
abbrev Pc := Option Tt
def br (b : Bool) (l : List Pc) : List Pc := if b = true then some (sgn6 40) :: (l ++ [some (sgn6 41)]) else l
def asked (e : Ex) (r : Nat) : Bool := decide (e.rank < r)
/-- What the left and the right one between which a sign stands are asked for. -/
def ask1 (o : Int) : Nat := if rk 5 o = 4 then 5 else rk 5 o
def ask2 (o : Int) : Nat := if rk 5 o = 4 then 5 else rk 5 o + 1
mutual
/-- A text's pieces. -/
def pcs : Ex → List Pc
  | .mk k o vk vn vs nm kids =>
    if k = 1 then [some (valT vk vn vs)]
    else if k = 2 then [some (1, nm)]
    else if k = 3 then [some (parT o)]
    else if k = 4 then match kids with
      | a :: _ =>
        if o = 1 then some (sgn6 45) :: br (asked a 7) (pcs a)
        else if o = 2 then some (key kNOT) :: none :: br (asked a 3) (pcs a)
        else if o = 3 then br (asked a 5) (pcs a) ++ [none, some (key kIS), none, some (key Val.wNull)]
        else br (asked a 5) (pcs a) ++ [none, some (key kIS), none, some (key kNOT), none, some (key Val.wNull)]
      | [] => []
    else if k = 5 then match kids with
      | a :: b :: _ => br (asked a (ask1 o)) (pcs a) ++ (none :: some (sgT o) :: none :: br (asked b (ask2 o)) (pcs b))
      | _ => []
    else if k = 6 then match kids with
      | a :: l => br (asked a 5) (pcs a) ++ (none :: some (key kIN) :: none :: some (sgn6 40) :: (pcsL l ++ [some (sgn6 41)]))
      | [] => []
    else some (callT nm) :: some (sgn6 40) :: (pcsL kids ++ [some (sgn6 41)])
/-- Some, a comma between each two. -/
def pcsL : List Ex → List Pc
  | [] => []
  | [a] => pcs a
  | a :: b :: l => pcs a ++ (some (sgn6 44) :: pcsL (b :: l))
end
def kidP (e : Ex) (r : Nat) : List Pc := br (asked e r) (pcs e)
/-- It is right, and has no slot. -/
inductive Rt : Ex → Prop
  | lit {k n : Int} {s : List UInt8} : Val.okV k n s = true → (k = 1 → 0 ≤ n) → n ≤ 9223372036854775807 → -9223372036854775808 ≤ n → Rt (lit k n s)
  | col {nm : List UInt8} : kindOf nm = 1 → Rt (col nm)
  | par {o : Int} : 1 ≤ o → o ≤ 6 → Rt (par o)
  | un {o : Int} {a : Ex} : 1 ≤ o → o ≤ 4 → Rt a → Rt (un o a)
  | bin {o : Int} {a b : Ex} : 1 ≤ o → o ≤ 14 → Rt a → Rt b → Rt (bin o a b)
  | inn {a : Ex} {l : List Ex} : l ≠ [] → l.length ≤ 8 → Rt a → (∀ x ∈ l, Rt x) → Rt (inn (a :: l))
  | call {nm : List UInt8} {l : List Ex} : l ≠ [] → (nm = nCoal ∧ l.length ≤ 4 ∨ (nm = nLen ∨ nm = nAbs) ∧ l.length ≤ 1) → (∀ x ∈ l, Rt x) → Rt (call nm l)

/-! ### Pieces, form by form -/
theorem pcs_lit (k n : Int) (s : List UInt8) : pcs (lit k n s) = [some (valT k n s)] := by unfold lit pcs; rfl
theorem pcs_col (nm : List UInt8) : pcs (col nm) = [some (1, nm)] := by unfold col pcs; rfl
theorem pcs_par (o : Int) : pcs (par o) = [some (parT o)] := by unfold par pcs; rfl
theorem pcs_un (o : Int) (a : Ex) : pcs (un o a) = if o = 1 then some (sgn6 45) :: kidP a 7 else if o = 2 then some (key kNOT) :: none :: kidP a 3
    else if o = 3 then kidP a 5 ++ [none, some (key kIS), none, some (key Val.wNull)] else kidP a 5 ++ [none, some (key kIS), none, some (key kNOT), none, some (key Val.wNull)] := by unfold un pcs; rfl
theorem pcs_bin (o : Int) (a b : Ex) : pcs (bin o a b) = kidP a (ask1 o) ++ (none :: some (sgT o) :: none :: kidP b (ask2 o)) := by unfold bin pcs; rfl
theorem pcs_inn (a : Ex) (l : List Ex) : pcs (inn (a :: l)) = kidP a 5 ++ (none :: some (key kIN) :: none :: some (sgn6 40) :: (pcsL l ++ [some (sgn6 41)])) := by unfold inn pcs; rfl
theorem pcs_call (nm : List UInt8) (l : List Ex) : pcs (call nm l) = some (callT nm) :: some (sgn6 40) :: (pcsL l ++ [some (sgn6 41)]) := by unfold call pcs; rfl
theorem pcsL_one (a : Ex) : pcsL [a] = pcs a := by rw [pcsL]
theorem pcsL_more (a b : Ex) (l : List Ex) : pcsL (a :: b :: l) = pcs a ++ (some (sgn6 44) :: pcsL (b :: l)) := by rw [pcsL]
end Go.Proofs.YtlkmhdbmcfblkaaGreatDoor.Ep
