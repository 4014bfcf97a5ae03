/- Is one part of a tree right: the program's way. A region that draws its order, beside calls that make memory: one walk, in the order of th Trees whose texts are not too long; what a list's beginning is. Lists of data that a call makes: a slice of the call's own, whose elements lead elsewhere; Lists of trees that a call makes: one more behind; what they read as. -/
import Derived.BigQuiet
import Derived.Deep.QuietTactic
import Derived.WalkKit
import Derived.WalkSpells
import Derived.WalkLawsBesides
import Derived.Lib.Hide
import Derived.Lib.IndexBytes
import Derived.Test.YtcblddpapehdeaaDoorL05
import Derived.Test.YtcblddpapehdeaaDoorL17
import Derived.Test.YtcblddpapehdeaaDoorL18
import Derived.Test.YtcblddpapehdeaaDoorRows
import Derived.Test.YtcblddpapehdeaaDoorL04
import Derived.Test.YtcblddpapehdeaaDoorL02
import Derived.Test.YtcblddpapehdeaaDoorL08
import Derived.ProofKit
import Derived.Test.YtcblddpapehdeaaDoorProg
import Derived.Test.YtcblddpapehdeaaDoorL03
namespace Go.Proofs.YtcblddpapehdeaaDoor.Ep
open Go.RowKit Go.Proofs.YtcblddpapehdeaaDoor.Mem Go.Proofs.YtcblddpapehdeaaDoor.Right Go.Proofs.YtcblddpapehdeaaDoor.Lx
set_option linter.unusedVariables false
/-- A whole text is a name. -/
theorem name_whole (l : List UInt8) : decide (lng l = (1, l.length)) = decide (kindOf l = 1) := by
  by_cases h : kindOf l = 1
  · rw [decide_eq_true h, decide_eq_true (kind_lng h (by omega))]
  · rw [decide_eq_false h]
    refine decide_eq_false fun g => h ?_
    match l with
    | [] => simp [lng] at g
    | c :: t =>
      rw [← kindR_is, kindR_cons]
      by_cases h1 : small c = true
      · simp only [lng, if_pos h1] at g
        injection g with _ g
        have hr := run_le inName t
        rw [List.length_cons] at g
        rw [if_pos ⟨by rw [List.length_cons]; omega, h1, run_whole.1 (by omega)⟩]
      · exfalso
        simp only [lng, if_neg h1] at g
        have hn : ∀ k n : Nat, 2 ≤ k → orN k n ≠ (1, (c :: t).length) := fun k n hk e => by
          unfold orN at e
          split at e
          · injection e with e _; omega
          · injection e with e _; omega
        repeat' split at g
        all_goals first | (injection g with g _; omega) | exact hn _ _ (by omega) g
theorem isToken_any (k : Nat) (s : ByteArray) (b : Bool) (hs : s.size ≤ 1000000) (hb : decide (lng s.data.toList = (k, s.size)) = b) (w : World) (h : Signs w) :
    Calls Tryd.prog 120 #[.int .i64 (k : Int), .string s] w fun e w' => e = .returned (.bool b) ∧ w = w' := by
  obtain ⟨k', n, hl⟩ : ∃ k' n, lng s.data.toList = (k', n) := ⟨_, _, rfl⟩
  rw [hl] at hb
  have HH := Lib.hid (show ∀ W, Signs W → Calls Tryd.prog 149 #[.string s] W fun e w' => e = .returned (.tuple #[.int .i64 (k' : Int), .int .i64 (n : Int)]) ∧ W = w' from fun W hW => by
    have := longest_any s hs W hW
    rw [hl] at this
    exact this)
  have HS := Lib.hid h
  clear h hl
  by_cases hk : k' = k
  · subst hk
    have tk : ((k' : Int) == (k' : Int)) = true := by simp
    have H := Lib.hid (show ((n : Int) == (s.size : Int)) = b by
      rw [← hb]
      by_cases e : n = s.size
      · subst e; simp
      · rw [beq_no (by omega), eq_comm]
        exact decide_eq_false fun g => e (by injection g))
    clear hb
    go_enter Tryd.func120, Tryd.ntmps120
    go_wp2_with (go_at_call 149; refine (HH.out _ HS.out).mono ?_; rintro e w' ⟨rfl, rfl⟩)
    go_ret
    exact ⟨rb H.out, rfl⟩
  · have tk : ((k' : Int) == (k : Int)) = false := beq_no (by omega)
    have H := Lib.hid (show false = b by rw [← hb, eq_comm]; exact decide_eq_false fun g => hk (by injection g))
    clear hb hk
    go_enter Tryd.func120, Tryd.ntmps120
    go_wp2_with (go_at_call 149; refine (HH.out _ HS.out).mono ?_; rintro e w' ⟨rfl, rfl⟩)
    go_ret
    exact ⟨rb H.out, rfl⟩
theorem isName_any (s : ByteArray) (hs : s.size ≤ 1000000) (w : World) (h : Signs w) :
    Calls Tryd.prog 80 #[.string s] w fun e w' => e = .returned (.bool (decide (kindOf s.data.toList = 1))) ∧ w = w' := by
  have HH := Lib.hid (show Calls Tryd.prog 120 #[.int .i64 1, .string s] w fun e w' => e = .returned (.bool (decide (kindOf s.data.toList = 1))) ∧ w = w' from isToken_any 1 s (decide (kindOf s.data.toList = 1)) hs (by rw [← name_whole, Array.length_toList]; rfl) w h)
  clear h
  go_enter Tryd.func80, Tryd.ntmps80
  go_wp2_with (go_at_call 120; (with_reducible refine HH.out.mono ?_); rintro e w' ⟨rfl, rfl⟩)
  go_ret
  exact ⟨rfl, rfl⟩
theorem txt_eq {l m : List UInt8} : ((txt l).toList == m) = decide (l = m) := by
  rw [Lib.toList_data, txt_back]
  by_cases h : l = m
  · subst h; simp
  · rw [decide_eq_false h, beq_eq_false_iff_ne]
    exact h
end Go.Proofs.YtcblddpapehdeaaDoor.Ep
namespace Go.Proofs.YtcblddpapehdeaaDoor.Mem
open Go.RowKit
set_option linter.unusedVariables false
/-- A world in which what w has is as it was. -/
structure CW (w : World) where
  val : World
  h : Below w.heap.size w val
instance (w : World) : Nonempty (CW w) := ⟨⟨w, Below.refl _ _⟩⟩
theorem wp_region_class {P : Program} {w₀ : World} {id : Nat} {Q : Exit → Act → World → Prop} {a : Act} {w : World} {l : List Oper} (hC : Below w₀.heap.size w₀ w.drew) (hm : P.follows .mixedOrders = true) (hB : Region.lexB .any l.toArray = true)
    (h : wpQuiet P l.toArray (fun w' => ∃ s : CW w₀, w' = s.val) (fun a' => ∀ w', (∃ s : CW w₀, w' = s.val) → Q .normal a' w') l a) : (Code.region id l.toArray true).wp P Q a w :=
  wp_region_quiet (C := fun w' => ∃ s : CW w₀, w' = s.val) hm hB ⟨⟨_, hC⟩, rfl⟩ (by simpa using h)
theorem CW.calls {P : Program} {f : FuncId} {args : Array Value} {w : World} {v : Value} {s : CW w} (h : Calls P f args s.val fun e w' => e = .returned v ∧ Below s.val.heap.size s.val w') :
    Calls P f args s.val fun e w'' => e = .returned v ∧ ∃ s' : CW w, w'' = s'.val := h.mono fun _ w' ⟨he, hb⟩ => ⟨he, ⟨w', Mem.on s.h hb⟩, rfl⟩
end Go.Proofs.YtcblddpapehdeaaDoor.Mem
namespace Go.Proofs.YtcblddpapehdeaaDoor.Ep
open Go.RowKit Go.Proofs.YtcblddpapehdeaaDoor.Mem Go.Proofs.YtcblddpapehdeaaDoor.Right
set_option linter.unusedVariables false
abbrev tE : TypeId := 54
mutual
/-- No text in it is longer than a machine can walk in one sitting. -/
def Lim : Ex → Prop
  | .mk _ _ _ _ vs nm kids => vs.length ≤ 1000000 ∧ nm.length ≤ 1000000 ∧ LimL kids
def LimL : List Ex → Prop
  | [] => True
  | x :: l => Lim x ∧ LimL l
end
theorem limL_iff : ∀ {l : List Ex}, LimL l ↔ ∀ x ∈ l, Lim x
  | [] => by rw [LimL]; simp
  | x :: l => by rw [LimL, limL_iff]; simp
theorem lim_mk (k o vk vn : Int) (vs nm : List UInt8) (kids : List Ex) : Lim (.mk k o vk vn vs nm kids) ↔ vs.length ≤ 1000000 ∧ nm.length ≤ 1000000 ∧ ∀ x ∈ kids, Lim x := by rw [Lim, limL_iff]
mutual
theorem cnt_lim : ∀ {e : Ex} {n m : Nat}, cnt e n = some m → Lim e
  | .mk k o vk vn vs nm kids, n, m, h => by
    rw [cnt] at h
    split at h
    · cases h
    · rename_i h0
      rw [Lim]
      exact ⟨by omega, by omega, cntL_lim h⟩
theorem cntL_lim : ∀ {l : List Ex} {n m : Nat}, cntL l n = some m → LimL l
  | [], n, m, h => by rw [LimL]; trivial
  | x :: l, n, m, h => by
    rw [cntL] at h
    split at h
    · cases h
    · rename_i m' e
      rw [LimL]
      exact ⟨cnt_lim e, cntL_lim h⟩
end
end Go.Proofs.YtcblddpapehdeaaDoor.Ep
namespace Go.Proofs.YtcblddpapehdeaaDoor.Mem
open Go.RowKit Go.Deep
set_option linter.unusedVariables false
theorem flatk_len {k : Nat} : ∀ {css : List (List Value)}, (∀ cs ∈ css, cs.length = k) → css.flatten.length = css.length * k
  | [], _ => by simp
  | cs :: r, h => by
    rw [List.flatten_cons, List.length_append, flatk_len fun c hc => h c (List.mem_cons_of_mem _ hc), h cs (by simp), List.length_cons, Nat.add_mul]; omega
theorem flatk_at {k : Nat} : ∀ {css : List (List Value)} {j i : Nat} {cs : List Value} {u : Value}, (∀ cs ∈ css, cs.length = k) → css[j]? = some cs → cs[i]? = some u → css.flatten[j * k + i]? = some u
  | [], j, i, cs, u, _, h, _ => by simp at h
  | c :: r, 0, i, cs, u, hl, h, hu => by
    simp at h; subst h
    have hi := (List.getElem?_eq_some_iff.1 hu).1
    rw [List.flatten_cons, List.getElem?_append_left (by omega), show 0 * k + i = i by omega]; exact hu
  | c :: r, j + 1, i, cs, u, hl, h, hu => by
    rw [List.getElem?_cons_succ] at h
    have := flatk_at (fun c hc => hl c (List.mem_cons_of_mem _ hc)) h hu
    have h7 := hl c (by simp)
    have e : (j + 1) * k + i = k + (j * k + i) := by rw [Nat.add_mul]; omega
    rw [List.flatten_cons, e, List.getElem?_append_right (by omega), h7, show k + (j * k + i) - k = j * k + i by omega]; exact this
/-- A list of data in a slice of the call's own, each of k cells; what they lead to lies in blocks of S. -/
def OwnD (w : World) (base : Nat) (e : TypeId) (k : Nat) (S : Nat → Prop) (v : Value) (l : List Dt) : Prop :=
  ∃ css : List (List Value), css.length = l.length ∧ (∀ cs ∈ css, cs.length = k) ∧ w.ownsRow base e k v l.length css.flatten ∧ ∀ (j : Nat) (d : Dt) (cs : List Value), l[j]? = some d → css[j]? = some cs → DtIn w S d cs
section
variable {w w' : World} {base : Nat} {e : TypeId} {k : Nat} {S S' : Nat → Prop} {v : Value} {l : List Dt}
theorem OwnD.lt (h : OwnD w base e k S v l) : ∀ g, v.ownBlock = some g → base ≤ g ∧ g < w.heap.size := by
  obtain ⟨css, _, _, h, _⟩ := h
  exact h.lt
theorem OwnD.form (h : OwnD w base e k S v l) : ∃ A c, v = .slice A l.length c ∧ (A = none → c = 0) ∧ l.length ≤ c ∧ c ≤ maxLen := by
  obtain ⟨css, hl, _, h, _⟩ := h
  rcases h.2 with ⟨rfl, h0⟩ | ⟨g, cap, cur, rfl, _, _, h1, h2, _⟩
  · exact ⟨none, 0, by rw [h0], fun _ => rfl, by omega, Nat.zero_le _⟩
  · exact ⟨_, cap, rfl, (fun e => by cases e), h1, h2⟩
/-- Elsewhere something has grown. -/
theorem OwnD.kept {row : Option Nat} (h : OwnD w base e k S v l) (hg : w.grownBy w' row) (hne : v.ownBlock = none ∨ v.ownBlock ≠ row) (hS : ∀ b, S b → b < w.heap.size ∧ some b ≠ row) : OwnD w' base e k S v l := by
  obtain ⟨css, hl, hk, ho, hx⟩ := h
  refine ⟨css, hl, hk, ho.kept hg hne, fun j d cs he hc => ?_⟩
  exact DtIn.to (fun _ h => h) (fun p hp => World.cell?_of_block (hg.block p.block (hS _ hp).1 (hS _ hp).2)) d cs (hx j d cs he hc)
/-- It reads as the list. -/
theorem OwnD.row (hk0 : k ≠ 0) {A : Option Addr} {n c : Nat} (h : OwnD w base e k S (.slice A n c) l) : RowIn w (fun b => S b ∨ (Value.slice A n c).ownBlock = some b) A k l 0 := by
  obtain ⟨css, hl, h7, ho, hx⟩ := h
  refine RowIn.of fun j d he => ?_
  have hj := (List.getElem?_eq_some_iff.1 he).1
  have hcs : css[j]? = some css[j] := List.getElem?_eq_getElem (by omega)
  have hlen := h7 css[j] (List.getElem_mem _)
  rcases ho.2 with ⟨_, h0⟩ | ⟨g, cap, cur, hv, _, hg, _⟩
  · omega
  · injection hv with hA hn hc
    subst hA
    refine ⟨g, 0, css[j], rfl, .inr rfl, hlen, fun i u hu => ?_, (hx j d _ he hcs).more fun b hb => .inl hb⟩
    have := ho.cells (g := g) rfl _ _ (flatk_at h7 hcs hu)
    rw [show (0 : Nat) + (0 + j) * k + i = j * k + i by rw [Nat.zero_add, Nat.zero_add]]
    have e2 : (⟨g, 0, none⟩ : Addr).add (j * k + i) = ⟨g, j * k + i, none⟩ := by unfold Addr.add; split <;> simp_all
    rw [e2] at this
    exact this
end
/-- Slices of type t have elements of type e, each of k cells and so many bytes. -/
def ElemK (P : Program) (t e : TypeId) (k bytes : Nat) : Prop :=
  ∃ i z, P.underlying t = some (.slice e) ∧ P.info? e = some i ∧ i.zero = some z ∧ i.size = k ∧ i.bytes = bytes ∧ z.cells.size = k ∧ 0 < k
theorem ElemK.of {P : Program} {t e : TypeId} {z : Value} {k bytes : Nat} (ht : P.underlying t = some (.slice e)) (hi : (P.info? e).map (fun i => (i.zero, i.size, i.bytes)) = some (some z, k, bytes)) (hz : z.cells.size = k) (hk : 0 < k) : ElemK P t e k bytes := by
  obtain ⟨i, h, h0, h1, h2⟩ := info_parts hi
  exact ⟨i, z, ht, h, h0, h1, h2, hz, hk⟩
end Go.Proofs.YtcblddpapehdeaaDoor.Mem
namespace Go.Proofs.YtcblddpapehdeaaDoor.Ep
open Go.RowKit Go.Proofs.YtcblddpapehdeaaDoor.Mem Go.Deep
set_option linter.unusedVariables false
/-- A list of trees in a slice of the call's own; the trees' kids lie in blocks of S. -/
def OwnT (w : World) (base : Nat) (tE : TypeId) (S : Nat → Prop) (v : Value) (l : List Ex) : Prop := OwnD w base tE 7 S v (l.map exDt)
section
variable {w w' : World} {base : Nat} {tE : TypeId} {S S' : Nat → Prop} {v : Value} {l : List Ex}
theorem OwnT.lt (h : OwnT w base tE S v l) : ∀ k, v.ownBlock = some k → base ≤ k ∧ k < w.heap.size := OwnD.lt h
theorem OwnT.form (h : OwnT w base tE S v l) : ∃ A c, v = .slice A l.length c ∧ (A = none → c = 0) ∧ l.length ≤ c ∧ c ≤ maxLen := by
  have := OwnD.form h
  rw [List.length_map] at this
  exact this
theorem OwnT.kept {row : Option Nat} (h : OwnT w base tE S v l) (hg : w.grownBy w' row) (hne : v.ownBlock = none ∨ v.ownBlock ≠ row) (hS : ∀ b, S b → b < w.heap.size ∧ some b ≠ row) : OwnT w' base tE S v l := OwnD.kept h hg hne hS
theorem OwnT.kids {A : Option Addr} {n c : Nat} (h : OwnT w base tE S (.slice A n c) l) : KidsIn w (fun b => S b ∨ (Value.slice A n c).ownBlock = some b) A 0 l := OwnD.row (by decide) h
end
end Go.Proofs.YtcblddpapehdeaaDoor.Ep
