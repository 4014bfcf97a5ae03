/- Bytes against bytes, numbers against numbers, pairs against pairs. -/
import Derived.Test.YtjlfacmmokfleaaBtMem
import Derived.Test.YtjlfacmmokfleaaRightWords
import Derived.Test.YtjlfacmmokfleaaMemParts
import Derived.Lib.Bytealg
import Derived.Laws.Externs
import Derived.Deep.RegionWith
namespace Go.Proofs.Ytjlfacmmokfleaa.Bt
open Go.RowKit Go.Proofs.Ytjlfacmmokfleaa.Mem Go.Proofs.Ytjlfacmmokfleaa.Right
set_option linter.unusedVariables false

theorem cmpB_lib : ∀ a b : List UInt8, Lib.compareBytes a b = cmpB a b
  | [], [] => rfl
  | [], _ :: _ => rfl
  | _ :: _, [] => rfl
  | x :: xs, y :: ys => by
    have ih := cmpB_lib xs ys
    unfold Lib.compareBytes cmpB klt
    by_cases h1 : x < y
    · simp [h1]
    · by_cases h2 : y < x
      · simp [h1, h2]
      · simp only [h1, h2, if_false]
        rw [ih]
        rfl
theorem load_bytes {w : World} : ∀ (l : List UInt8) (a : Addr) (acc : ByteArray), (∀ j x, l[j]? = some x → w.cell? (a.add j) = some (.int .u8 x.toNat)) →
    (Extern.Bytes.loadBytes a l.length acc).run Try.prog w = .ok ⟨acc.data ++ l.toArray⟩ w
  | [], a, acc, _ => by simp [Extern.Bytes.loadBytes]
  | x :: l, a, acc, h => by
    have h0 : w.cell? a = some (.int .u8 x.toNat) := by
      have := h 0 x rfl
      simpa [Addr.add] using this
    have ih := load_bytes l (a.add 1) (acc.push x) (fun j y hy => by
      have := h (j + 1) y (by simpa using hy)
      have e : (a.add 1).add j = a.add (j + 1) := by
        unfold Addr.add
        by_cases hj : j = 0
        · subst hj; simp
        · simp [hj]; omega
      rw [e]; exact this)
    have hx : ((x.toNat : Int).toNat).toUInt8 = x := by simp
    simp only [List.length_cons, Extern.Bytes.loadBytes, Sem.run_bind, run_load, h0, Result.andThen, hx]
    rw [ih]
    congr 1
    apply ByteArray.ext
    simp [ByteArray.push]
theorem bytes_of {w : World} {A : Option Addr} {n c : Nat} {l : List UInt8} (h : Bs w A n c l) : (Extern.Bytes.bytesOf (.slice A n c)).run Try.prog w = .ok ⟨l.toArray⟩ w := by
  obtain ⟨h1, h2, _⟩ := h
  subst h2
  cases A with
  | none =>
    cases l with
    | nil => rfl
    | cons x t =>
      obtain ⟨b, o, e, _⟩ := h1 0 (.int .u8 (x.toNat : Int)) rfl
      cases e
  | some a =>
    have := load_bytes (w := w) l a ByteArray.empty (fun j x hx => by
      obtain ⟨b, o, e, _, hc⟩ := h1 j (.int .u8 (x.toNat : Int)) (by unfold bys; rw [List.getElem?_map, hx]; rfl)
      injection e with e
      subst e
      have e2 : (⟨b, o, none⟩ : Addr).add j = ⟨b, o + j, none⟩ := by unfold Addr.add; split <;> simp_all
      rw [e2]; exact hc)
    show (Extern.Bytes.loadBytes a l.length ByteArray.empty).run Try.prog w = _
    rw [this]
    congr 2
    simp [ByteArray.empty, ByteArray.emptyWithCapacity]
    rfl
theorem run_compare {w : World} {A C : Option Addr} {n m ca cb : Nat} {l r : List UInt8} (h1 : Bs w A n ca l) (h2 : Bs w C m cb r) :
    (Extern.BytealgCompare.compare #[.slice A n ca, .slice C m cb]).run Try.prog w = .ok (.int .i64 (cmpB l r)) w := by
  change Sem.run Try.prog (do pure (goInt (Extern.BytealgCompare.cmp (← Extern.Bytes.bytesOf (.slice A n ca)) (← Extern.Bytes.bytesOf (.slice C m cb))))) w = _
  simp only [Sem.run_bind, Sem.run_pure, Result.andThen, bytes_of h1, bytes_of h2]
  rw [Lib.cmp_eq, cmpB_lib]
  rfl
theorem call_compare {w : World} {A C : Option Addr} {n m ca cb : Nat} {l r : List UInt8} (h1 : Bs w A n ca l) (h2 : Bs w C m cb r) :
    (callFunc 49 #[.slice A n ca, .slice C m cb]).run Try.prog w = .ok (.value (.int .i64 (cmpB l r))) w := by
  rw [run_callFunc_extern Try.func49 (by kernel_rfl) (by kernel_rfl) (by kernel_rfl) (e := Extern.BytealgCompare.compare) (by kernel_rfl), run_compare h1 h2]
  rfl
theorem compare_any (A C : Option Addr) (n m ca cb : Nat) (l r : List UInt8) (w : World) (h1 : Bs w A n ca l) (h2 : Bs w C m cb r) :
    Calls Try.prog 33 #[.slice A n ca, .slice C m cb] w fun e w' => e = .returned (.int .i64 (cmpB l r)) ∧ w' = w := by
  have H := Lib.hid (call_compare h1 h2)
  clear h1 h2
  go_enter Try.func33, Try.ntmps33
  go_wp2
  rw [H.out]
  rw [Oper.upon_value]
  go_wp2
  go_ret
  exact ⟨rfl, rfl⟩
theorem cmp_any (x y : Int) (w : World) : Calls Try.prog 45 #[.int .i64 x, .int .i64 y] w fun e w' => e = .returned (.int .i64 (cmpI x y)) ∧ w' = w := by
  have t0 : (x != x) = false := by simp
  have t1 : (y != y) = false := by simp
  by_cases h1 : x < y
  · have HV := Lib.hid (show cmpI x y = -1 by simp [cmpI, h1])
    go_enter Try.func45, Try.ntmps45
    go_wp2
    go_ret
    exact ⟨ri HV.out.symm, rfl⟩
  · by_cases h2 : y < x
    · have HV := Lib.hid (show cmpI x y = 1 by simp [cmpI, h1, h2])
      go_enter Try.func45, Try.ntmps45
      go_wp2
      go_ret
      exact ⟨ri HV.out.symm, rfl⟩
    · have HV := Lib.hid (show cmpI x y = 0 by simp [cmpI, h1, h2])
      go_enter Try.func45, Try.ntmps45
      go_wp2
      go_ret
      exact ⟨ri HV.out.symm, rfl⟩
theorem or_any (g : Nat) (x y : Int) (w : World) (h0 : w.cell? ⟨g, 0, none⟩ = some (.int .i64 x)) (h1 : w.cell? ⟨g, 1, none⟩ = some (.int .i64 y)) :
    Calls Try.prog 44 #[.slice (some ⟨g, 0, none⟩) 2 2] w fun e w' => e = .returned (.int .i64 (orI x y)) ∧ w' = w := by
  by_cases hx : x = 0
  · have t0 : (x != 0) = false := bne_no hx
    by_cases hy : y = 0
    · have t1 : (y != 0) = false := bne_no hy
      have HV := Lib.hid (show orI x y = 0 by simp [orI, hx, hy])
      clear hx hy
      go_enter Try.func44, Try.ntmps44
      go_wp2
      refine wp_loop_rounds 3 ?_
      rw [rounds_succ]; go_wp2
      rw [rounds_succ]; go_wp2
      rw [rounds_succ]; go_wp2
      go_ret
      exact ⟨ri HV.out.symm, rfl⟩
    · have t1 : (y != 0) = true := bne_yes hy
      have HV := Lib.hid (show orI x y = y by simp [orI, hx])
      clear hx hy
      go_enter Try.func44, Try.ntmps44
      go_wp2
      refine wp_loop_rounds 3 ?_
      rw [rounds_succ]; go_wp2
      rw [rounds_succ]; go_wp2
      go_ret
      exact ⟨ri HV.out.symm, rfl⟩
  · have t0 : (x != 0) = true := bne_yes hx
    have HV := Lib.hid (show orI x y = x by simp [orI, hx])
    clear hx
    go_enter Try.func44, Try.ntmps44
    go_wp2
    refine wp_loop_rounds 3 ?_
    rw [rounds_succ]; go_wp2
    go_ret
    exact ⟨ri HV.out.symm, rfl⟩
end Go.Proofs.Ytjlfacmmokfleaa.Bt
