/- How high a tree is, whether it is right, whether two are one, whether it has few parts: by Right values, in plain words. Small words for walks over numbers and texts. For every layer. A kid of a tree, cell by cell, as the walk spells its places; texts' sizes. Has a tree few parts? The document's count (registrarref10.count, Few). One element behind a list of the call's own: what 'append(v, x)' leaves, for elements of o Worlds that have grown but for one block: what stays. Dump-free. -/
import Derived.Test.YtcblddpapehdeaaDoorC01
import GoSem.Op.String
import Derived.WalkKit
import Derived.WalkSpells
import Derived.WalkLawsBesides
import Derived.Lib.Hide
import Derived.Lib.IndexBytes
import Derived.Test.YtcblddpapehdeaaDoorRows
import Derived.Test.YtcblddpapehdeaaDoorC03
import Derived.Maps.AppendAt
import Derived.OwnWalk
import Derived.Laws.AppendOwnNone
namespace Go.Proofs.YtcblddpapehdeaaDoor.Ep
open Go.Proofs.YtcblddpapehdeaaDoor.Lx
set_option linter.unusedVariables false
mutual
def hgt : Ex → Nat
  | .mk _ _ _ _ _ _ kids => hgtL kids + 1
/-- The greatest height of these. -/
def hgtL : List Ex → Nat
  | [] => 0
  | x :: l => max (hgt x) (hgtL l)
end
theorem hgt_mk (k o vk vn : Int) (vs nm : List UInt8) (kids : List Ex) : hgt (.mk k o vk vn vs nm kids) = hgtL kids + 1 := by rw [hgt]
theorem hgtL_cons (x : Ex) (l : List Ex) : hgtL (x :: l) = max (hgt x) (hgtL l) := by rw [hgtL]
theorem hgtL_app : ∀ (a b : List Ex), hgtL (a ++ b) = max (hgtL a) (hgtL b)
  | [], b => by rw [List.nil_append, show hgtL [] = 0 by rw [hgtL]]; omega
  | x :: a, b => by rw [List.cons_append, hgtL_cons, hgtL_cons, hgtL_app a b]; omega
theorem hgtL_snoc (l : List Ex) (x : Ex) : hgtL (l ++ [x]) = max (hgtL l) (hgt x) := by
  rw [hgtL_app, hgtL_cons, show hgtL [] = 0 by rw [hgtL]]; omega
theorem hgtL_mem : ∀ {l : List Ex} {x : Ex}, x ∈ l → hgt x ≤ hgtL l
  | y :: l, x, h => by
    rw [hgtL_cons]
    rcases List.mem_cons.1 h with rfl | h
    · omega
    · have := hgtL_mem h; omega
/-- Are the fields of one part as they must be, which has so many kids? -/
def headB (slots : Bool) (k o vk vn : Int) (vs nm : List UInt8) (n : Nat) : Bool :=
  if (k ≠ 1 ∧ ¬ (vk = 0 ∧ vn = 0 ∧ vs = [])) ∨ (k ≠ 2 ∧ k ≠ 7 ∧ nm ≠ []) then false
  else if (k = 1 ∨ k = 2 ∨ k = 6 ∨ k = 7) ∧ o ≠ 0 then false
  else if k = 1 then decide (n = 0) && Val.okV vk vn vs && decide (¬ (vk = 1 ∧ vn < 0))
  else if k = 2 then decide (n = 0) && decide (kindOf nm = 1)
  else if k = 3 then decide (n = 0 ∧ 1 ≤ o ∧ o ≤ 6)
  else if k = 4 then decide (n = 1 ∧ 1 ≤ o ∧ o ≤ 4)
  else if k = 5 then decide (n = 2 ∧ 1 ≤ o ∧ o ≤ 14)
  else if k = 6 then decide (2 ≤ n ∧ n ≤ 9)
  else if k = 7 then decide ((nm = nCoal ∧ 1 ≤ n ∧ n ≤ 4) ∨ ((nm = nLen ∨ nm = nAbs) ∧ n = 1))
  else if k = 8 then slots && decide (n = 0 ∧ 0 ≤ o ∧ o ≤ 5)
  else false
mutual
def rightB (slots : Bool) : Ex → Bool
  | .mk k o vk vn vs nm kids => rightL slots kids && headB slots k o vk vn vs nm kids.length
def rightL (slots : Bool) : List Ex → Bool
  | [] => true
  | x :: l => rightB slots x && rightL slots l
end
theorem rightB_mk (slots : Bool) (k o vk vn : Int) (vs nm : List UInt8) (kids : List Ex) : rightB slots (.mk k o vk vn vs nm kids) = (rightL slots kids && headB slots k o vk vn vs nm kids.length) := by rw [rightB]
theorem rightL_iff {slots : Bool} : ∀ {l : List Ex}, rightL slots l = true ↔ ∀ x ∈ l, rightB slots x = true
  | [] => by rw [rightL]; simp
  | x :: l => by rw [rightL, Bool.and_eq_true, rightL_iff]; simp
/-- Check's error. -/
def checkE (slots : Bool) (e : Ex) : Int := if 8 < hgt e then 17 else if rightB slots e = true then 0 else 2
mutual
def sameB : Ex → Ex → Bool
  | .mk k o vk vn vs nm kids, .mk k' o' vk' vn' vs' nm' kids' => decide (k = k' ∧ o = o' ∧ (vk = vk' ∧ vn = vn' ∧ vs = vs') ∧ nm = nm') && sameL kids kids'
def sameL : List Ex → List Ex → Bool
  | [], [] => true
  | x :: l, y :: m => sameB x y && sameL l m
  | [], _ :: _ => false
  | _ :: _, [] => false
end
mutual
/-- How many parts are left of so many. -/
def cnt : Ex → Nat → Option Nat
  | .mk k o vk vn vs nm kids, n => if n = 0 ∨ 12 < kids.length ∨ 100 < nm.length ∨ 100 < vs.length then none else cntL kids (n - 1)
def cntL : List Ex → Nat → Option Nat
  | [], n => some n
  | x :: l, n => match cnt x n with
    | none => none
    | some m => cntL l m
end
mutual
def size : Ex → Nat
  | .mk _ _ _ _ _ _ kids => sizeL kids + 1
def sizeL : List Ex → Nat
  | [] => 0
  | x :: l => size x + sizeL l
end
mutual
theorem cnt_size : ∀ {e : Ex} {n m : Nat}, cnt e n = some m → size e + m = n
  | .mk k o vk vn vs nm kids, n, m, h => by
    rw [cnt] at h
    split at h
    · cases h
    · have := cntL_size h
      rw [size]; omega
theorem cntL_size : ∀ {l : List Ex} {n m : Nat}, cntL l n = some m → sizeL l + m = n
  | [], n, m, h => by
    rw [cntL] at h
    injection h with h
    rw [sizeL]; omega
  | x :: l, n, m, h => by
    rw [cntL] at h
    split at h
    · cases h
    · rename_i m' e
      have h1 := cnt_size e
      have h2 := cntL_size h
      rw [sizeL]; omega
end
mutual
theorem hgt_size : ∀ e : Ex, hgt e ≤ size e
  | .mk k o vk vn vs nm kids => by
    have := hgtL_size kids
    rw [hgt, size]; omega
theorem hgtL_size : ∀ l : List Ex, hgtL l ≤ sizeL l
  | [] => by rw [hgtL, sizeL]; omega
  | x :: l => by
    have h1 := hgt_size x
    have h2 := hgtL_size l
    rw [hgtL, sizeL]; omega
end
end Go.Proofs.YtcblddpapehdeaaDoor.Ep
namespace Go.Proofs.YtcblddpapehdeaaDoor.Right
/-- May a byte stand in a text? -/
def okB (c : UInt8) : Bool := !(decide ((c.toNat : Int) < 32) || decide (126 < (c.toNat : Int)))
/-- May all bytes stand in a text? -/
def pl (l : List UInt8) : Bool := l.all okB
/-- Is a value right? -/
def okV (k n : Int) (l : List UInt8) : Bool :=
  if k = 0 then decide (n = 0) && decide (l = []) else if k = 1 then decide (l = []) else if k = 2 then (decide (n = 0) || decide (n = 1)) && decide (l = [])
  else if k = 3 then decide (n = 0) && decide (l.length ≤ 32) && pl l else false
theorem ok_0 {n : Int} {l : List UInt8} : okV 0 n l = (decide (n = 0) && decide (l = [])) := rfl
theorem ok_1 {n : Int} {l : List UInt8} : okV 1 n l = decide (l = []) := rfl
theorem ok_2 {n : Int} {l : List UInt8} : okV 2 n l = ((decide (n = 0) || decide (n = 1)) && decide (l = [])) := rfl
theorem ok_3 {n : Int} {l : List UInt8} : okV 3 n l = (decide (n = 0) && decide (l.length ≤ 32) && pl l) := rfl
theorem ok_no {k n : Int} {l : List UInt8} (h0 : ¬ k = 0) (h1 : ¬ k = 1) (h2 : ¬ k = 2) (h3 : ¬ k = 3) : okV k n l = false := by unfold okV; rw [if_neg h0, if_neg h1, if_neg h2, if_neg h3]
theorem l_inj {a b : ByteArray} (h : a.data.toList = b.data.toList) : a = b := by
  obtain ⟨⟨x⟩⟩ := a
  obtain ⟨⟨y⟩⟩ := b
  have h : x = y := h
  subst h
  rfl
end Go.Proofs.YtcblddpapehdeaaDoor.Right
namespace Go.Proofs.YtcblddpapehdeaaDoor.Right
open Go.RowKit Go.Proofs.YtcblddpapehdeaaDoor.Mem
set_option linter.unusedVariables false
theorem beq_no {a b : Int} (h : ¬ a = b) : (a == b) = false := beq_eq_false_iff_ne.2 h
theorem beq_yes {a b : Int} (h : a = b) : (a == b) = true := by simp [h]
theorem bne_no {a b : Int} (h : a = b) : (a != b) = false := by simp [h]
theorem bne_yes {a b : Int} (h : ¬ a = b) : (a != b) = true := by simp [h]
theorem ri {a b : Int} (h : a = b) : Ending.returned (.int .i64 a) = .returned (.int .i64 b) := by rw [h]
theorem rb {a b : Bool} (h : a = b) : Ending.returned (.bool a) = .returned (.bool b) := by rw [h]
theorem take_snoc (s : ByteArray) (k : Nat) (h : k < s.size) : s.data.toList.take (k + 1) = s.data.toList.take k ++ [s[k]] := by
  rw [List.take_succ_eq_append_getElem (by simpa using h)]; rfl
theorem take_all (s : ByteArray) : s.data.toList.take s.size = s.data.toList := List.take_of_length_le (by rw [Array.length_toList]; exact Nat.le_refl _)
theorem drop_byte (s : ByteArray) (k : Nat) (h : k < s.size) : s.data.toList.drop k = s[k] :: s.data.toList.drop (k + 1) := by
  have hk : k < s.data.toList.length := by rw [Array.length_toList]; exact h
  rw [List.drop_eq_getElem_cons hk]; rfl
theorem empty_or (s : ByteArray) : s = ⟨#[]⟩ ∨ (¬ s.data.toList = [] ∧ (s.toList == []) = false) := by
  by_cases h : s.data.toList = []
  · left; exact l_inj h
  · right; refine ⟨h, ?_⟩
    rw [Lib.toList_data]; simpa using h
end Go.Proofs.YtcblddpapehdeaaDoor.Right
namespace Go.Proofs.YtcblddpapehdeaaDoor.Ep
open Go.RowKit Go.Proofs.YtcblddpapehdeaaDoor.Mem Go.Proofs.YtcblddpapehdeaaDoor.Right
set_option linter.unusedVariables false
theorem txt_size (l : List UInt8) : (txt l).size = l.length := rfl
theorem txt_back (l : List UInt8) : (txt l).data.toList = l := rfl
/-- A tree as an argument. -/
abbrev exV (k o vk vn : Int) (vs nm : ByteArray) (A : Option Addr) (n c : Nat) : Value := .agg #[.int .i64 k, .int .i64 o, .int .i64 vk, .int .i64 vn, .string vs, .string nm, .slice A n c]
/-- The cells of a tree, its texts as the model has them. -/
theorem ex_open {w : World} {S : Nat → Prop} {k o vk vn : Int} {vs nm : List UInt8} {kids : List Ex} {cs : List Value} (h : ExIn w S (.mk k o vk vn vs nm kids) cs) :
    ∃ A n c, cs = [.int .i64 k, .int .i64 o, .int .i64 vk, .int .i64 vn, .string (txt vs), .string (txt nm), .slice A n c] ∧ n = kids.length ∧ kids.length ≤ c ∧ c ≤ maxLen ∧ (A = none → c = 0) ∧ KidsIn w S A 0 kids := by
  obtain ⟨A, c, h1, h2, h3, h4, h5⟩ := (exIn_mk _ _ _ _ _ _ _ _ _ _).1 h
  exact ⟨A, _, c, h1, rfl, h2, h3, h4, h5⟩
/-- A kid: seven cells, and what they lead to. -/
theorem kid_at {w : World} {S : Nat → Prop} {A : Option Addr} {kids : List Ex} {j : Nat} {x : Ex} (h : KidsIn w S A 0 kids) (hx : kids[j]? = some x) :
    ∃ k o vk vn vs nm ks A' n' c' b p, x = .mk k o vk vn vs nm ks ∧ A = some ⟨b, p, none⟩ ∧ S b ∧ n' = ks.length ∧
      w.cell? ⟨b, p + j * 7, none⟩ = some (.int .i64 k) ∧ w.cell? ⟨b, p + j * 7 + 1, none⟩ = some (.int .i64 o) ∧ w.cell? ⟨b, p + j * 7 + 2, none⟩ = some (.int .i64 vk) ∧ w.cell? ⟨b, p + j * 7 + 3, none⟩ = some (.int .i64 vn) ∧
      w.cell? ⟨b, p + j * 7 + 4, none⟩ = some (.string (txt vs)) ∧ w.cell? ⟨b, p + j * 7 + 5, none⟩ = some (.string (txt nm)) ∧ w.cell? ⟨b, p + j * 7 + 6, none⟩ = some (.slice A' n' c') ∧
      ExIn w S x [.int .i64 k, .int .i64 o, .int .i64 vk, .int .i64 vn, .string (txt vs), .string (txt nm), .slice A' n' c'] := by
  obtain ⟨b, p, cs, h1, h2, _, h3, h4⟩ := h.get hx
  obtain ⟨k, o, vk, vn, vs, nm, ks⟩ := x
  obtain ⟨A', n', c', rfl, h5, _⟩ := ex_open h4
  rw [show p + (0 + j) * 7 = p + j * 7 by omega] at h3
  exact ⟨k, o, vk, vn, vs, nm, ks, A', n', c', b, p, rfl, h1, h2, h5, h3 0 _ rfl, h3 1 _ rfl, h3 2 _ rfl, h3 3 _ rfl, h3 4 _ rfl, h3 5 _ rfl, h3 6 _ rfl, h4⟩
theorem drop_kid {l : List Ex} {j : Nat} {x : Ex} (h : l[j]? = some x) : l.drop j = x :: l.drop (j + 1) := by
  obtain ⟨hj, rfl⟩ := List.getElem?_eq_some_iff.1 h
  exact List.drop_eq_getElem_cons hj
theorem kid_mem {l : List Ex} {j : Nat} {x : Ex} (h : l[j]? = some x) : x ∈ l := List.mem_of_getElem? h
theorem kid_some {l : List Ex} {j : Nat} (h : j < l.length) : ∃ x, l[j]? = some x := ⟨_, List.getElem?_eq_getElem h⟩
theorem sizeL_mem : ∀ {l : List Ex} {x : Ex}, x ∈ l → size x ≤ sizeL l
  | y :: l, x, h => by
    rw [sizeL]
    rcases List.mem_cons.1 h with rfl | h
    · omega
    · have := sizeL_mem h; omega
theorem size_pos (e : Ex) : 1 ≤ size e := by
  obtain ⟨k, o, vk, vn, vs, nm, kids⟩ := e
  rw [size]; omega
theorem sizeL_len : ∀ (l : List Ex), l.length ≤ sizeL l
  | [] => by simp
  | x :: l => by
    have := sizeL_len l
    have := size_pos x
    rw [sizeL, List.length_cons]; omega
end Go.Proofs.YtcblddpapehdeaaDoor.Ep
namespace Go.Proofs.YtcblddpapehdeaaDoor.Ep
open Go.RowKit Go.Proofs.YtcblddpapehdeaaDoor.Mem Go.Proofs.YtcblddpapehdeaaDoor.Right
set_option linter.unusedVariables false
/-- What count answers. -/
def cntR : Option Nat → Array Value
  | none => #[.int .i64 0, .bool false]
  | some m => #[.int .i64 (m : Int), .bool true]
theorem cnt_mk (k o vk vn : Int) (vs nm : List UInt8) (kids : List Ex) (n : Nat) : cnt (.mk k o vk vn vs nm kids) n = if n = 0 ∨ 12 < kids.length ∨ 100 < nm.length ∨ 100 < vs.length then none else cntL kids (n - 1) := by rw [cnt]
theorem cntL_nil (n : Nat) : cntL [] n = some n := by rw [cntL]
theorem cntL_cons (x : Ex) (l : List Ex) (n : Nat) : cntL (x :: l) n = match cnt x n with | none => none | some m => cntL l m := by rw [cntL] <;> rfl
theorem cnt_le {e : Ex} {n m : Nat} (h : cnt e n = some m) : m ≤ n := by have := cnt_size h; omega
set_option maxHeartbeats 4000000 in
theorem count_any : ∀ (e : Ex) (cs : List Value) (n : Nat) (w : World), ExAt w w.heap.size e cs → n ≤ 1000 →
    Calls Tryd.prog 68 #[.agg cs.toArray, .int .i64 (n : Int)] w fun x w' => x = .returned (.tuple (cntR (cnt e n))) ∧ Below w.heap.size w w' := by
  refine Ex.byKids fun k o vk vn vs nm kids ih cs n w h hn => ?_
  obtain ⟨A, kn, c, rfl, hkn, hc1, hc2, hc3, hk⟩ := ex_open h
  rw [cnt_mk]
  obtain ⟨nb, hnb⟩ : ∃ nb, txt nm = nb := ⟨_, rfl⟩
  obtain ⟨vb, hvb⟩ : ∃ vb, txt vs = vb := ⟨_, rfl⟩
  have hns : nb.size = nm.length := by rw [← hnb]; rfl
  have hvs : vb.size = vs.length := by rw [← hvb]; rfl
  rw [hnb, hvb]
  have HB0 := Lib.hid (al (Below.refl w.heap.size w) (.cells #[.int .i64 k, .int .i64 o, .int .i64 vk, .int .i64 vn, .string vb, .string nb, .slice A kn c] 54))
  have HN := Lib.hid hkn
  have t1c : 12 < kids.length ↔ 12 < kn := by rw [hkn]
  clear hkn
  by_cases h0 : n = 0
  · subst h0
    rw [if_pos (.inl rfl)]
    go_enter Tryd.func68, Tryd.ntmps68
    go_wp2
    go_ret2
    exact ⟨rfl, HB0.out⟩
  have t0 : decide ((n : Int) ≤ 0) = false := decide_eq_false (by omega)
  by_cases h1 : 12 < kids.length
  · rw [if_pos (.inr (.inl h1))]
    have t1 : decide (12 < (kn : Int)) = true := decide_eq_true (by have := t1c.1 h1; omega)
    clear h1 t1c
    go_enter Tryd.func68, Tryd.ntmps68
    go_wp2
    go_ret2
    exact ⟨rfl, HB0.out⟩
  have t1 : decide (12 < (kn : Int)) = false := decide_eq_false (fun g => h1 (t1c.2 (by omega)))
  have h12 : kn ≤ 12 := by omega
  by_cases h2 : 100 < nm.length
  · rw [if_pos (.inr (.inr (.inl h2)))]
    have t2 : decide (100 < (nb.size : Int)) = true := decide_eq_true (by omega)
    go_enter Tryd.func68, Tryd.ntmps68
    go_wp2
    go_ret2
    exact ⟨rfl, HB0.out⟩
  have t2 : decide (100 < (nb.size : Int)) = false := decide_eq_false (by omega)
  by_cases h3 : 100 < vs.length
  · rw [if_pos (.inr (.inr (.inr h3)))]
    have t3 : decide (100 < (vb.size : Int)) = true := decide_eq_true (by omega)
    go_enter Tryd.func68, Tryd.ntmps68
    go_wp2
    go_ret2
    exact ⟨rfl, HB0.out⟩
  have t3 : decide (100 < (vb.size : Int)) = false := decide_eq_false (by omega)
  rw [if_neg (by omega)]
  have HK := Lib.hid hk
  obtain ⟨n1, hn1⟩ : ∃ n1, n - 1 = n1 := ⟨_, rfl⟩
  have hn1' : (n : Int) - 1 = (n1 : Int) := by omega
  rw [hn1]
  clear hk h hnb hvb hns hvs hn1 h1 h2 h3 hc1 hc2 hc3 t1c
  go_enter Tryd.func68, Tryd.ntmps68
  go_wp2
  go_loopw [6, 1] (fun i l wr => ∃ (j m : Nat), j ≤ kn ∧ m ≤ 1000 ∧ i = .int .i64 (j : Int) ∧ l = .int .i64 (m : Int) ∧ Hid (cntL kids n1 = cntL (kids.drop j) m) ∧ Hid (Below (w.alloc (.cells #[.int .i64 k, .int .i64 o, .int .i64 vk, .int .i64 vn, .string vb, .string nb, .slice A kn c] 54)).heap.size (w.alloc (.cells #[.int .i64 k, .int .i64 o, .int .i64 vk, .int .i64 vn, .string vb, .string nb, .slice A kn c] 54)) wr)) (fun i _ _ => kn + 1 - (intOf i).toNat)
  case atStart => exact ⟨0, n1, Nat.zero_le _, by omega, rfl, rfl, Lib.hid (by rw [List.drop_zero]), Lib.hid (Below.refl _ _)⟩
  case round =>
    obtain ⟨j, m, hj, hm, rfl, rfl, HL, HB⟩ := hrel
    have HBw := Lib.hid (HB0.out.trans (HB.out.mono HB0.out.size))
    have d6 := HB.out.cell (p := ⟨w.heap.size, 6, none⟩) (by simp)
    by_cases hlt : j < kn
    · obtain ⟨x, hx⟩ := kid_some (l := kids) (j := j) (by have := HN.out; omega)
      obtain ⟨k', o', vk', vn', vs', nm', ks', A', n', c', b, p, e, rfl, hb, hn', c0, c1, c2, c3, c4, c5, c6, hin⟩ := kid_at HK.out hx
      have HI : ∀ W, Below w.heap.size w W → Calls Tryd.prog 68 #[exV k' o' vk' vn' (txt vs') (txt nm') A' n' c', .int .i64 (m : Int)] W fun x' w' => x' = .returned (.tuple (cntR (cnt x m))) ∧ Below W.heap.size W w' := fun W hW => ih x (kid_mem hx) _ m W (ExAt.on hin hW) hm
      rw [drop_kid hx, cntL_cons] at HL
      have c0 := (HBw.out.cell hb).trans c0
      have c1 := (HBw.out.cell hb).trans c1
      have c2 := (HBw.out.cell hb).trans c2
      have c3 := (HBw.out.cell hb).trans c3
      have c4 := (HBw.out.cell hb).trans c4
      have c5 := (HBw.out.cell hb).trans c5
      have c6 := (HBw.out.cell hb).trans c6
      have tl : decide ((j : Int) < (kn : Int)) = true := decide_eq_true (by omega)
      clear hin hn' e
      cases hcx : cnt x m with
      | none =>
        rw [hcx] at HI HL
        simp only [cntR] at HI
        have HI := Lib.hid HI
        go_wp2_with (go_at_call 68; (with_reducible refine (HI.out _ HBw.out).mono ?_); rintro e' w2 ⟨rfl, hb2⟩; have HB2 := Lib.hid hb2; clear hb2)
        go_ret2
        exact ⟨by rw [HL.out]; rfl, Mem.on HBw.out HB2.out⟩
      | some m' =>
        rw [hcx] at HI HL
        simp only [cntR] at HI
        have hm' := cnt_le hcx
        have HI := Lib.hid HI
        go_wp2_with (go_at_call 68; (with_reducible refine (HI.out _ HBw.out).mono ?_); rintro e' w2 ⟨rfl, hb2⟩; have HB2 := Lib.hid hb2; clear hb2)
        go_roundw
        case rel => exact ⟨j + 1, m', by omega, by omega, by go_num, rfl, HL, Lib.hid (HB.out.trans (HB2.out.mono HB.out.size))⟩
        case measure => simp [intOf]; omega
    · have tl : decide ((j : Int) < (kn : Int)) = false := decide_eq_false (by omega)
      have hd : kids.drop j = [] := List.drop_eq_nil_of_le (by have := HN.out; omega)
      rw [hd, cntL_nil] at HL
      go_wp2
      go_ret2
      exact ⟨by rw [HL.out]; rfl, HBw.out⟩
theorem few_any (e : Ex) (cs : List Value) (n : Nat) (w : World) (h : ExAt w w.heap.size e cs) (hn : n ≤ 1000) :
    Calls Tryd.prog 29 #[.agg cs.toArray, .int .i64 (n : Int)] w fun x w' => x = .returned (.bool (cnt e n).isSome) ∧ Below w.heap.size w w' := by
  have HC : ∀ W, Below w.heap.size w W → Calls Tryd.prog 68 #[.agg cs.toArray, .int .i64 (n : Int)] W fun x w' => x = .returned (.tuple (cntR (cnt e n))) ∧ Below W.heap.size W w' := fun W hW => count_any e cs n W (h.on hW) hn
  obtain ⟨k, o, vk, vn, vs, nm, kids⟩ := e
  obtain ⟨A, kn, c, rfl, -⟩ := ex_open h
  have HB0 := Lib.hid (al (Below.refl w.heap.size w) (.cells #[.int .i64 k, .int .i64 o, .int .i64 vk, .int .i64 vn, .string (txt vs), .string (txt nm), .slice A kn c] 54))
  cases hc : cnt (.mk k o vk vn vs nm kids) n with
  | none =>
    rw [hc] at HC
    simp only [cntR] at HC
    have HC := Lib.hid HC
    clear h
    go_enter Tryd.func29, Tryd.ntmps29
    go_wp2_with (go_at_call 68; (with_reducible refine (HC.out _ HB0.out).mono ?_); rintro e' w2 ⟨rfl, hb2⟩; have HB2 := Lib.hid hb2; clear hb2)
    go_ret
    exact ⟨rfl, Mem.on HB0.out HB2.out⟩
  | some m =>
    rw [hc] at HC
    simp only [cntR] at HC
    have HC := Lib.hid HC
    clear h
    go_enter Tryd.func29, Tryd.ntmps29
    go_wp2_with (go_at_call 68; (with_reducible refine (HC.out _ HB0.out).mono ?_); rintro e' w2 ⟨rfl, hb2⟩; have HB2 := Lib.hid hb2; clear hb2)
    go_ret
    exact ⟨rfl, Mem.on HB0.out HB2.out⟩
end Go.Proofs.YtcblddpapehdeaaDoor.Ep
namespace Go.Proofs.YtcblddpapehdeaaDoor.Mem
open Go.RowKit
set_option linter.unusedVariables false
/-- Slices of type t have elements of type e, each of one cell and so many bytes. -/
def Elem (P : Program) (t e : TypeId) (bytes : Nat) : Prop :=
  ∃ i z, P.underlying t = some (.slice e) ∧ P.info? e = some i ∧ i.zero = some z ∧ i.size = 1 ∧ i.bytes = bytes ∧ z.cells.size = 1
theorem Elem.of {P : Program} {t e : TypeId} {z : Value} {bytes : Nat} (ht : P.underlying t = some (.slice e)) (hi : (P.info? e).map (fun i => (i.zero, i.size, i.bytes)) = some (some z, 1, bytes)) (hz : z.cells.size = 1) : Elem P t e bytes := by
  obtain ⟨i, h, h0, h1, h2⟩ := info_parts hi
  exact ⟨i, z, ht, h, h0, h1, h2, hz⟩
theorem wp_one {P : Program} {w0 : World} {x : Value} {ops : Array Oper} {rest : List Oper} {o : Oper} {a : Act} {Q : Exit → Act → World → Prop} {t e : TypeId} {bytes : Nat} (E : Elem P t e bytes) (base : Nat) (s y : Operand)
    (hgd : o.guard = none) (ho : o.op = .call { callee := .builtin .append, args := #[s, y], argTypes := #[t, t] })
    {v : Value} {n : Nat} {xs : List Value} (hs : a.eval s = v) (hown : w0.ownsRow base e 1 v n xs) (hy : a.eval y = .slice (some ⟨w0.heap.size, 0, none⟩) 1 1) (h1 : x.oneCell' = true)
    (hn : n < 9223372036854775807) (hby : (n + 1) * bytes ≤ 140737488355328) (hB : base ≤ w0.heap.size)
    (h : ∀ v' w', w'.ownsRow base e 1 v' (n + 1) (xs ++ [x]) → (w0.alloc (.cells #[x] e)).grownBy w' v.ownBlock → (v'.ownBlock = v.ownBlock ∨ v'.ownBlock = some (w0.alloc (.cells #[x] e)).heap.size) → wpList P ops Q rest (a.put o.dst v') w') :
    wpList P ops Q (o :: rest) a (w0.alloc (.cells #[x] e)) := by
  obtain ⟨i, z, ht, hi, hz, hz1, hz2, hzc⟩ := E
  refine wpList_append_own_at _ hgd s y t ho base e i z 1 bytes ht hi hz hz1 hz2 hzc (by decide) v n xs hs (hown.alloc _) ⟨w0.heap.size, 0, none⟩ 1 1 [x] hy rfl (cell_one_new _ _ _) ?_ (by unfold maxLen; omega) hby (by simp; omega) ?_
  · intro u hu
    simp at hu
    subst hu
    exact h1
  · intro v' w' h1 h2 _ h3
    exact h v' w' h1 h2 h3
/-- A whole list behind a list of the call's own; what comes may be nil. -/
theorem wp_many {P : Program} {w : World} {ops : Array Oper} {rest : List Oper} {o : Oper} {a : Act} {Q : Exit → Act → World → Prop} {t e : TypeId} {bytes : Nat} (E : Elem P t e bytes) (base : Nat) (s y : Operand)
    (hgd : o.guard = none) (ho : o.op = .call { callee := .builtin .append, args := #[s, y], argTypes := #[t, t] })
    {v : Value} {n : Nat} {xs : List Value} (hs : a.eval s = v) (hown : w.ownsRow base e 1 v n xs) {B : Nat} {A : Option Addr} {m c : Nat} {us : List Value} (hy : a.eval y = .slice A m c) (hr : Row w B A us)
    (hl : us.length = m) (hA : A = none → c = 0) (h1 : ∀ u ∈ us, u.oneCell' = true)
    (hn : n + m ≤ 9223372036854775807) (hby : (n + m) * bytes ≤ 140737488355328) (hB : base ≤ w.heap.size)
    (h : ∀ v' w', w'.ownsRow base e 1 v' (n + m) (xs ++ us) → w.grownBy w' v.ownBlock → (v'.ownBlock = v.ownBlock ∨ v'.ownBlock = some w.heap.size) → wpList P ops Q rest (a.put o.dst v') w') :
    wpList P ops Q (o :: rest) a w := by
  obtain ⟨i, z, ht, hi, hz, hz1, hz2, hzc⟩ := E
  cases A with
  | none =>
    have hc := hA rfl
    subst hc
    have hu : us = [] := by
      cases us with
      | nil => rfl
      | cons u r =>
        obtain ⟨b, o', he, _⟩ := hr 0 u (by simp)
        cases he
    subst hu
    subst hl
    refine wpList_append_own_none hgd s y t ho base e i 1 ht hi v n xs hs hown hy ?_
    exact h v w (by simpa using hown) ⟨rfl, rfl, rfl, Nat.le_refl _, fun _ _ _ => rfl⟩ (.inl rfl)
  | some ad =>
    refine wpList_append_own_at _ hgd s y t ho base e i z 1 bytes ht hi hz hz1 hz2 hzc (by decide) v n xs hs hown ad m c us hy (by omega) ?_ h1 (by unfold maxLen; omega) hby hB fun v' w' g1 g2 _ g3 => h v' w' g1 g2 g3
    intro j u hu
    obtain ⟨b, o', he, _, hc⟩ := hr j u hu
    have he : ad = ⟨b, o', none⟩ := by injection he
    subst he
    have e2 : (⟨b, o', none⟩ : Addr).add j = ⟨b, o' + j, none⟩ := by unfold Addr.add; split <;> simp_all
    rw [e2]; exact hc
end Go.Proofs.YtcblddpapehdeaaDoor.Mem
namespace Go.Proofs.YtcblddpapehdeaaDoor.Mem
open Go.RowKit
set_option linter.unusedVariables false
theorem blk_lt {w : World} {g : Nat} {o : Obj} (h : w.heap[g]? = some o) : g < w.heap.size := by
  rcases Nat.lt_or_ge g w.heap.size with h2 | h2
  · exact h2
  · rw [Array.getElem?_eq_none h2] at h; cases h
theorem grown_below {w w' : World} {r : Option Nat} (h : Below w.heap.size w w') : w.grownBy w' r := ⟨h.os, h.tape, h.output, h.size, fun k hk _ => h.block k hk⟩
theorem grown_set {w : World} {g i : Nat} (x : Value) : w.grownBy (w.setCell ⟨g, i, none⟩ x) (some g) := by
  refine ⟨rfl, rfl, rfl, by simp [World.setCell], fun k hk hr => ?_⟩
  show (w.heap.modify g _)[k]? = _
  rw [Array.getElem?_modify, if_neg (fun e => hr (by rw [e]))]
end Go.Proofs.YtcblddpapehdeaaDoor.Mem
