/- One element behind a list of the call's own: what 'append(v, x)' leaves, for elements of o Slices of values as lists: each value lies in three cells; what came in, and what the call The longest token with which a text begins; whether it can be told from what stands behind -/
import Derived.Maps.AppendAt
import Derived.OwnWalk
import Derived.Laws.AppendOwnNone
import Derived.Test.YtcblddpapehdeaaDoorM01
import Derived.Deep.Slices
import Derived.Deep.Fields
import Derived.ProofKit
import Derived.OpenShut
import Derived.ShutString
import Derived.ChangeOld
import Derived.Below
import Derived.Lib.SmallJoins
import Derived.Test.YtcblddpapehdeaaDoorM03
import Derived.Test.YtcblddpapehdeaaDoorProg
import Derived.Test.YtcblddpapehdeaaDoorM05
import Derived.Test.YtcblddpapehdeaaDoorM06
namespace Go.Proofs.YtcblddpapehdeaaDoor.Mem
open Go.RowKit
set_option linter.unusedVariables false
/-- Slices of type t have elements of type e, each of one cell and so many bytes. -/
def Elem (P : Program) (t e : TypeId) (bytes : Nat) : Prop :=
  ∃ i z, P.underlying t = some (.slice e) ∧ P.info? e = some i ∧ i.zero = some z ∧ i.size = 1 ∧ i.bytes = bytes ∧ z.cells.size = 1
theorem Elem.of {P : Program} {t e : TypeId} {z : Value} {bytes : Nat} (ht : P.underlying t = some (.slice e)) (hi : (P.info? e).map (fun i => (i.zero, i.size, i.bytes)) = some (some z, 1, bytes)) (hz : z.cells.size = 1) : Elem P t e bytes := by
  obtain ⟨i, h, h0, h1, h2⟩ := info_parts hi
  exact ⟨i, z, ht, h, h0, h1, h2, hz⟩
theorem wp_one {P : Program} {w0 : World} {x : Value} {ops : Array Oper} {rest : List Oper} {o : Oper} {a : Act} {Q : Exit → Act → World → Prop} {t e : TypeId} {bytes : Nat} (E : Elem P t e bytes) (base : Nat) (s y : Operand)
    (hgd : o.guard = none) (ho : o.op = .call { callee := .builtin .append, args := #[s, y], argTypes := #[t, t] })
    {v : Value} {n : Nat} {xs : List Value} (hs : a.eval s = v) (hown : w0.ownsRow base e 1 v n xs) (hy : a.eval y = .slice (some ⟨w0.heap.size, 0, none⟩) 1 1) (h1 : x.oneCell' = true)
    (hn : n < 9223372036854775807) (hby : (n + 1) * bytes ≤ 140737488355328) (hB : base ≤ w0.heap.size)
    (h : ∀ v' w', w'.ownsRow base e 1 v' (n + 1) (xs ++ [x]) → (w0.alloc (.cells #[x] e)).grownBy w' v.ownBlock → (v'.ownBlock = v.ownBlock ∨ v'.ownBlock = some (w0.alloc (.cells #[x] e)).heap.size) → wpList P ops Q rest (a.put o.dst v') w') :
    wpList P ops Q (o :: rest) a (w0.alloc (.cells #[x] e)) := by
  obtain ⟨i, z, ht, hi, hz, hz1, hz2, hzc⟩ := E
  refine wpList_append_own_at _ hgd s y t ho base e i z 1 bytes ht hi hz hz1 hz2 hzc (by decide) v n xs hs (hown.alloc _) ⟨w0.heap.size, 0, none⟩ 1 1 [x] hy rfl (cell_one_new _ _ _) ?_ (by unfold maxLen; omega) hby (by simp; omega) ?_
  · intro u hu
    simp at hu
    subst hu
    exact h1
  · intro v' w' h1 h2 _ h3
    exact h v' w' h1 h2 h3
/-- A whole list behind a list of the call's own; what comes may be nil. -/
theorem wp_many {P : Program} {w : World} {ops : Array Oper} {rest : List Oper} {o : Oper} {a : Act} {Q : Exit → Act → World → Prop} {t e : TypeId} {bytes : Nat} (E : Elem P t e bytes) (base : Nat) (s y : Operand)
    (hgd : o.guard = none) (ho : o.op = .call { callee := .builtin .append, args := #[s, y], argTypes := #[t, t] })
    {v : Value} {n : Nat} {xs : List Value} (hs : a.eval s = v) (hown : w.ownsRow base e 1 v n xs) {B : Nat} {A : Option Addr} {m c : Nat} {us : List Value} (hy : a.eval y = .slice A m c) (hr : Row w B A us)
    (hl : us.length = m) (hA : A = none → c = 0) (h1 : ∀ u ∈ us, u.oneCell' = true)
    (hn : n + m ≤ 9223372036854775807) (hby : (n + m) * bytes ≤ 140737488355328) (hB : base ≤ w.heap.size)
    (h : ∀ v' w', w'.ownsRow base e 1 v' (n + m) (xs ++ us) → w.grownBy w' v.ownBlock → (v'.ownBlock = v.ownBlock ∨ v'.ownBlock = some w.heap.size) → wpList P ops Q rest (a.put o.dst v') w') :
    wpList P ops Q (o :: rest) a w := by
  obtain ⟨i, z, ht, hi, hz, hz1, hz2, hzc⟩ := E
  cases A with
  | none =>
    have hc := hA rfl
    subst hc
    have hu : us = [] := by
      cases us with
      | nil => rfl
      | cons u r =>
        obtain ⟨b, o', he, _⟩ := hr 0 u (by simp)
        cases he
    subst hu
    subst hl
    refine wpList_append_own_none hgd s y t ho base e i 1 ht hi v n xs hs hown hy ?_
    exact h v w (by simpa using hown) ⟨rfl, rfl, rfl, Nat.le_refl _, fun _ _ _ => rfl⟩ (.inl rfl)
  | some ad =>
    refine wpList_append_own_at _ hgd s y t ho base e i z 1 bytes ht hi hz hz1 hz2 hzc (by decide) v n xs hs hown ad m c us hy (by omega) ?_ h1 (by unfold maxLen; omega) hby hB fun v' w' g1 g2 _ g3 => h v' w' g1 g2 g3
    intro j u hu
    obtain ⟨b, o', he, _, hc⟩ := hr j u hu
    have he : ad = ⟨b, o', none⟩ := by injection he
    subst he
    have e2 : (⟨b, o', none⟩ : Addr).add j = ⟨b, o' + j, none⟩ := by unfold Addr.add; split <;> simp_all
    rw [e2]; exact hc
end Go.Proofs.YtcblddpapehdeaaDoor.Mem
namespace Go.Proofs.YtcblddpapehdeaaDoor.Mem
open Go.RowKit Go.Proofs.YtcblddpapehdeaaDoor.Right Go.ChangeShapes Go.WideShapes Go.Deep
/-- A slice that the call made reads as the row that it owns. -/
theorem Row.own3 {w : World} {base : Nat} {e : TypeId} {A : Option Addr} {n c : Nat} {us : List Value} (h : w.ownsRow base e 3 (.slice A n c) n us) : Row w w.heap.size A us := by
  intro k u hu
  obtain ⟨hk, _⟩ := List.getElem?_eq_some_iff.1 hu
  have hn : us.length = n * 3 := h.1
  rcases h.2 with ⟨_, h0⟩ | ⟨g, cap, cur, hv, _, hh, hnc, hcm, hcs, hcur⟩
  · omega
  · injection hv with hA hn' hc
    subst hA hc
    refine ⟨g, 0, rfl, ?_, ?_⟩
    · rcases Nat.lt_or_ge g w.heap.size with h1 | h1
      · exact h1
      · rw [Array.getElem?_eq_none h1] at hh; cases hh
    · have h3 : cur.toList[k]? = some u := by
        rw [← hcur, List.getElem?_take] at hu
        split at hu
        · exact hu
        · cases hu
      simp [World.cell?, hh]
      simpa using h3
/-- Slices of type t have elements of type e, each of so many cells and bytes. -/
def ElemN (P : Program) (t e : TypeId) (size bytes : Nat) : Prop :=
  ∃ i z, P.underlying t = some (.slice e) ∧ P.info? e = some i ∧ i.zero = some z ∧ i.size = size ∧ i.bytes = bytes ∧ z.cells.size = size ∧ 0 < size
theorem ElemN.of {P : Program} {t e : TypeId} {z : Value} {size bytes : Nat} (ht : P.underlying t = some (.slice e)) (hi : (P.info? e).map (fun i => (i.zero, i.size, i.bytes)) = some (some z, size, bytes)) (hz : z.cells.size = size) (hs : 0 < size) : ElemN P t e size bytes := by
  obtain ⟨i, h, h0, h1, h2⟩ := info_parts hi
  exact ⟨i, z, ht, h, h0, h1, h2, hz, hs⟩
section
variable {H : Type} {enc : TypeId × Value → H} {P : Program} {W : World}
end
section
variable {H : Type} {enc : TypeId × Value → H} {P : Program} {W : World}
end
end Go.Proofs.YtcblddpapehdeaaDoor.Mem
namespace Go.Proofs.YtcblddpapehdeaaDoor.Lx
open Go.RowKit Go.Proofs.YtcblddpapehdeaaDoor.Mem Go.Proofs.YtcblddpapehdeaaDoor.Right
set_option linter.unusedVariables false
section
variable {l t : List UInt8} {c : UInt8}
theorem lng_name (hl : l = c :: t) (h : small c = true) : lng l = (1, min (run inName l) 12) := by
  subst hl
  have : inName c = true := by unfold inName; rw [h]; rfl
  simp only [lng, if_pos h]
  rw [run_cons, if_pos this, Nat.add_comm]
theorem lng_key (hl : l = c :: t) (h0 : small c = false) (h : cap c = true) : lng l = (2, min (run inKey l) 16) := by
  subst hl
  have : inKey c = true := by unfold inKey; rw [h]; rfl
  simp only [lng, h0, if_pos h, Bool.false_eq_true, if_false]
  rw [run_cons, if_pos this, Nat.add_comm]
theorem lng_zero (hl : l = c :: t) (h0 : small c = false) (h1 : cap c = false) (h : c = 48) : lng l = (3, 1) := by
  subst hl
  simp only [lng, h0, h1, if_pos h, Bool.false_eq_true, if_false]
theorem lng_dig (hl : l = c :: t) (h0 : small c = false) (h1 : cap c = false) (h2 : ¬ c = 48) (h : dig c = true) : lng l = (3, min (run dig l) 19) := by
  subst hl
  simp only [lng, h0, h1, if_neg h2, if_pos h, Bool.false_eq_true, if_false]
  rw [run_cons, if_pos h, Nat.add_comm]
theorem lng_quo (hl : l = c :: t) (h0 : small c = false) (h1 : cap c = false) (h2 : ¬ c = 48) (h3 : dig c = false) (h : c = 39) : lng l = orN 4 (qz l) := by
  subst hl
  simp only [lng, h0, h1, if_neg h2, h3, if_pos h, Bool.false_eq_true, if_false]
  rfl
theorem lng_par (hl : l = c :: t) (h0 : small c = false) (h1 : cap c = false) (h2 : ¬ c = 48) (h3 : dig c = false) (h4 : ¬ c = 39) (h : c = 36) : lng l = orN 5 (pz l) := by
  subst hl
  simp only [lng, h0, h1, if_neg h2, h3, if_neg h4, if_pos h, Bool.false_eq_true, if_false]
  rfl
theorem lng_sgn (hl : l = c :: t) (h0 : small c = false) (h1 : cap c = false) (h2 : ¬ c = 48) (h3 : dig c = false) (h4 : ¬ c = 39) (h5 : ¬ c = 36) : lng l = orN 6 (sz l) := by
  subst hl
  simp only [lng, h0, h1, if_neg h2, h3, if_neg h4, if_neg h5, Bool.false_eq_true, if_false]
  rfl
end
theorem byte_is' {c k : UInt8} (h : (c.toNat : Int) = (k.toNat : Int)) : c = k := UInt8.toNat_inj.1 (by omega)
theorem two_int {a b : Nat} {p : Nat × Nat} (h : p = (a, b)) : Ending.returned (.tuple #[.int .i64 (a : Int), .int .i64 (b : Int)]) = .returned (.tuple #[.int .i64 (p.1 : Int), .int .i64 (p.2 : Int)]) := by rw [h]
theorem two_int' {p q : Nat × Nat} (h : p = q) : Ending.returned (.tuple #[.int .i64 (q.1 : Int), .int .i64 (q.2 : Int)]) = .returned (.tuple #[.int .i64 (p.1 : Int), .int .i64 (p.2 : Int)]) := by rw [h]
set_option maxHeartbeats 1000000 in
theorem longest_any (s : ByteArray) (hs : s.size ≤ 1000000) (w : World) (h : Signs w) :
    Calls Tryd.prog 149 #[.string s] w fun e w' => e = .returned (.tuple #[.int .i64 ((lng s.data.toList).1 : Int), .int .i64 ((lng s.data.toList).2 : Int)]) ∧ w = w' := by
  have HS := Lib.hid h
  clear h
  rcases empty_or s with rfl | ⟨hne, hse⟩
  · go_enter Tryd.func149, Tryd.ntmps149
    go_wp2
    go_ret2
    exact ⟨rfl, rfl⟩
  · have h0 : 0 < s.size := by
      rcases Nat.eq_zero_or_pos s.size with e | e
      · exact absurd (List.eq_nil_of_length_eq_zero (by rw [Array.length_toList]; exact e)) hne
      · exact e
    have hl := drop_byte s 0 h0
    rw [List.drop_zero] at hl
    clear hne
    cases h1 : small s[0] with
    | true =>
      have H := Lib.hid (lng_name hl h1)
      clear hl
      go_enter Tryd.func149, Tryd.ntmps149
      go_wp2_with (first | (go_at_call 172; refine (small_any s[0] _).mono ?_; rintro e w' ⟨rfl, rfl⟩) | (go_at_call 173; refine (run_inName s 12 hs (by decide) _).mono ?_; rintro e w' ⟨rfl, rfl⟩))
      go_ret2
      exact ⟨two_int H.out, rfl⟩
    | false =>
      cases h2 : cap s[0] with
      | true =>
        have H := Lib.hid (lng_key hl h1 h2)
        clear hl
        go_enter Tryd.func149, Tryd.ntmps149
        go_wp2_with (first | (go_at_call 172; refine (small_any s[0] _).mono ?_; rintro e w' ⟨rfl, rfl⟩) | (go_at_call 175; refine (cap_any s[0] _).mono ?_; rintro e w' ⟨rfl, rfl⟩) | (go_at_call 173; refine (run_inKey s 16 hs (by decide) _).mono ?_; rintro e w' ⟨rfl, rfl⟩))
        go_ret2
        exact ⟨two_int H.out, rfl⟩
      | false =>
        by_cases h3 : s[0] = 48
        · have H := Lib.hid (lng_zero hl h1 h2 h3)
          have t3 : ((s[0].toNat : Int) == 48) = true := by rw [h3]; rfl
          clear hl h3
          go_enter Tryd.func149, Tryd.ntmps149
          go_wp2_with (first | (go_at_call 172; refine (small_any s[0] _).mono ?_; rintro e w' ⟨rfl, rfl⟩) | (go_at_call 175; refine (cap_any s[0] _).mono ?_; rintro e w' ⟨rfl, rfl⟩))
          go_ret2
          exact ⟨two_int H.out, rfl⟩
        have t3 : ((s[0].toNat : Int) == 48) = false := beq_no fun e => h3 (byte_is' (by rw [e]; rfl))
        cases h4 : dig s[0] with
        | true =>
          have H := Lib.hid (lng_dig hl h1 h2 h3 h4)
          clear hl h3
          go_enter Tryd.func149, Tryd.ntmps149
          go_wp2_with (first | (go_at_call 172; refine (small_any s[0] _).mono ?_; rintro e w' ⟨rfl, rfl⟩) | (go_at_call 175; refine (cap_any s[0] _).mono ?_; rintro e w' ⟨rfl, rfl⟩) | (go_at_call 177; refine (dig_any s[0] _).mono ?_; rintro e w' ⟨rfl, rfl⟩) | (go_at_call 173; refine (run_dig s 19 hs (by decide) _).mono ?_; rintro e w' ⟨rfl, rfl⟩))
          go_ret2
          exact ⟨two_int H.out, rfl⟩
        | false =>
          by_cases h5 : s[0] = 39
          · have H := Lib.hid (lng_quo hl h1 h2 h3 h4 h5)
            have t5 : ((s[0].toNat : Int) == 39) = true := by rw [h5]; rfl
            clear hl h3 h5
            go_enter Tryd.func149, Tryd.ntmps149
            go_wp2_with (first | (go_at_call 172; refine (small_any s[0] _).mono ?_; rintro e w' ⟨rfl, rfl⟩) | (go_at_call 175; refine (cap_any s[0] _).mono ?_; rintro e w' ⟨rfl, rfl⟩) | (go_at_call 177; refine (dig_any s[0] _).mono ?_; rintro e w' ⟨rfl, rfl⟩) | (go_at_call 179; refine (quoted_any s hs _).mono ?_; rintro e w' ⟨rfl, rfl⟩) | (go_at_call 178; refine (orNone_any 4 _ _).mono ?_; rintro e w' ⟨rfl, rfl⟩))
            go_ret2
            exact ⟨two_int' H.out, rfl⟩
          have t5 : ((s[0].toNat : Int) == 39) = false := beq_no fun e => h5 (byte_is' (by rw [e]; rfl))
          by_cases h6 : s[0] = 36
          · have H := Lib.hid (lng_par hl h1 h2 h3 h4 h5 h6)
            have t6 : ((s[0].toNat : Int) == 36) = true := by rw [h6]; rfl
            clear hl h3 h5 h6
            go_enter Tryd.func149, Tryd.ntmps149
            go_wp2_with (first | (go_at_call 172; refine (small_any s[0] _).mono ?_; rintro e w' ⟨rfl, rfl⟩) | (go_at_call 175; refine (cap_any s[0] _).mono ?_; rintro e w' ⟨rfl, rfl⟩) | (go_at_call 177; refine (dig_any s[0] _).mono ?_; rintro e w' ⟨rfl, rfl⟩) | (go_at_call 180; refine (param_any s hs _).mono ?_; rintro e w' ⟨rfl, rfl⟩) | (go_at_call 178; refine (orNone_any 5 _ _).mono ?_; rintro e w' ⟨rfl, rfl⟩))
            go_ret2
            exact ⟨two_int' H.out, rfl⟩
          have t6 : ((s[0].toNat : Int) == 36) = false := beq_no fun e => h6 (byte_is' (by rw [e]; rfl))
          have H := Lib.hid (lng_sgn hl h1 h2 h3 h4 h5 h6)
          clear hl h3 h5 h6
          go_enter Tryd.func149, Tryd.ntmps149
          go_wp2_with (first | (go_at_call 172; refine (small_any s[0] _).mono ?_; rintro e w' ⟨rfl, rfl⟩) | (go_at_call 175; refine (cap_any s[0] _).mono ?_; rintro e w' ⟨rfl, rfl⟩) | (go_at_call 177; refine (dig_any s[0] _).mono ?_; rintro e w' ⟨rfl, rfl⟩) | (go_at_call 181; refine (sign_any s hs h0 _ HS.out).mono ?_; rintro e w' ⟨rfl, rfl⟩) | (go_at_call 178; refine (orNone_any 6 _ _).mono ?_; rintro e w' ⟨rfl, rfl⟩))
          go_ret2
          exact ⟨two_int' H.out, rfl⟩
end Go.Proofs.YtcblddpapehdeaaDoor.Lx
