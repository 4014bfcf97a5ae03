/- A copy of bytes; a pair with a key of its own; how deep a node stands; the first of a node's pairs. -/
import Derived.Test.YtjlfacmmokfleaaBtSmall
import Derived.Test.YtjlfacmmokfleaaMemParts
import Derived.Deep.LoopGhost
import Derived.Deep.RegionHeld3
import Derived.Lib.SliceRun
namespace Go.Proofs.Ytjlfacmmokfleaa.Bt
open Go.RowKit Go.Proofs.Ytjlfacmmokfleaa.Mem Go.Proofs.Ytjlfacmmokfleaa.Right
set_option linter.unusedVariables false

/-- A pair whose key lies in memory that is new. -/
def Fresh (n : Nat) (r : Pr) : Prop := ∀ b o, r.a = some ⟨b, o, none⟩ → n ≤ b
theorem made_key {B : Nat} {W w' : World} {v : Value} {l : List UInt8} (h : Made B W v l w') (x : Int) : ∃ A c, v = .slice A l.length c ∧ Key w' ⟨A, c, l, x⟩ ∧ Fresh B ⟨A, c, l, x⟩ := by
  obtain ⟨A, c, rfl, hb⟩ := h.bs
  refine ⟨A, c, rfl, ⟨hb, fun b o e => ?_, fun e => ?_⟩, fun b o e => ?_⟩
  · rcases h.1.2 with ⟨e2, _⟩ | ⟨g, cap, cur, e2, hB, hh, _⟩
    · injection e2 with e2 _ _; have e : A = _ := e; rw [e] at e2; cases e2
    · injection e2 with e2 _ _
      have e : A = _ := e
      rw [e] at e2
      injection e2 with e2
      injection e2 with e2 _
      subst e2
      exact ⟨_, _, hh⟩
  · rcases h.1.2 with ⟨e2, _⟩ | ⟨g, cap, cur, e2, hB, hh, _⟩
    · injection e2 with _ _ e2
    · injection e2 with e2 _ _; have e : A = _ := e; rw [e] at e2; cases e2
  · rcases h.1.2 with ⟨e2, _⟩ | ⟨g, cap, cur, e2, hB, hh, _⟩
    · injection e2 with e2 _ _; have e : A = _ := e; rw [e] at e2; cases e2
    · injection e2 with e2 _ _
      have e : A = _ := e
      rw [e] at e2
      injection e2 with e2
      injection e2 with e2 _
      subst e2
      exact hB
set_option maxRecDepth 100000 in
theorem bclone_any (A : Option Addr) (n c : Nat) (l : List UInt8) (w : World) (h : Bs w A n c l) (hA : A = none → c = 0) (hn : n ≤ 1000) :
    Calls Try.prog 50 #[.slice A n c] w fun e w' => ∃ v, e = .returned v ∧ Made w.heap.size w v l w' := by
  cases A with
  | none =>
    have hl : l = [] := by
      cases l with
      | nil => rfl
      | cons x t =>
        obtain ⟨b, o, e, _⟩ := h.1 0 (.int .u8 (x.toNat : Int)) rfl
        cases e
    subst hl
    obtain rfl := hA rfl
    clear hA
    have t0 : ∀ w0 : World, (binOp .eql 30 (.slice none n 0) (.slice none 0 0)).run Try.prog w0 = .ok (.bool true) w0 := fun w0 => Lib.run_eql_slice_nil w0 _ _ none n 0 0 0 Try.underlying30
    go_enter Try.func50, Try.ntmps50
    go_wp2
    go_ret
    exact ⟨_, rfl, Made.start (Below.refl _ _)⟩
  | some a =>
    have hB := al (Below.refl w.heap.size w) (.cells #[] 5)
    have HM := Lib.hid (Made.at_ (B := w.heap.size) (W := w) (g := w.heap.size) (cs := []) (m := 0) hB (Nat.le_refl _) (heap_alloc_new w (.cells #[] 5)) rfl rfl (by decide))
    have HR := Lib.hid (h.1.below hB (Nat.le_refl _))
    have HL := Lib.hid h.2.1
    clear h hB
    have t0 : ∀ w0 : World, (binOp .eql 30 (.slice (some a) n c) (.slice none 0 0)).run Try.prog w0 = .ok (.bool false) w0 := fun w0 => Lib.run_eql_slice_nil w0 _ _ (some a) n c 0 0 Try.underlying30
    go_enter Try.func50, Try.ntmps50
    go_wp2_with (at_builtin; refine wp_src (s := .tmp 5) (y := .tmp 6) (A := some a) (m := n) (c := c) HM.out HR.out HL.out hA rfl rfl rfl rfl (by simp; omega) ?_; intro v w2 HM2; have HM3 := Lib.hid HM2; clear HM2)
    go_ret
    exact ⟨_, rfl, HM3.out⟩
theorem pair_load {W : World} {B : Nat} {x y : Value} (h : Cel W B tP #[x, y]) : (loadVar tP ⟨B, 0, none⟩).run Try.prog W = .ok (.agg #[x, y]) W := by
  have h0 := h.at_ 0
  have h1 := h.at_ 1
  go_simp
set_option maxHeartbeats 1000000 in
theorem clone_any (A : Option Addr) (n c : Nat) (l : List UInt8) (x : Int) (w : World) (h : Bs w A n c l) (hA : A = none → c = 0) (hn : n ≤ 1000) :
    Calls Try.prog 34 #[.agg #[.slice A n c, .int .i64 x]] w fun e w' => ∃ A' c', e = .returned (.agg #[.slice A' n c', .int .i64 x]) ∧ Key w' ⟨A', c', l, x⟩ ∧ Fresh w.heap.size ⟨A', c', l, x⟩ ∧ Below w.heap.size w w' := by
  have hl := h.2.1
  have hB0 : Below w.heap.size w ((w.alloc (.cells #[.slice A n c, .int .i64 x] tP)).alloc (.cells #[.slice none 0 0, .int .i64 0] tP)) := al (al (Below.refl _ _) _) _
  have HB0 := Lib.hid hB0
  have HA := Lib.hid (h.below hB0)
  have HP := Lib.hid ((Cel.new w tP #[.slice A n c, .int .i64 x] rfl).alloc (.cells #[.slice none 0 0, .int .i64 0] tP))
  have HZ := Lib.hid (Cel.new (w.alloc (.cells #[.slice A n c, .int .i64 x] tP)) tP #[.slice none 0 0, .int .i64 0] (B := w.heap.size + 1) (by simp))
  clear h hB0
  go_enter Try.func34, Try.ntmps34
  go_upto_region 1 with (fail)
  generalize ((w.alloc (.cells #[.slice A n c, .int .i64 x] tP)).alloc (.cells #[.slice none 0 0, .int .i64 0] tP)) = W at HB0 HA HP HZ ⊢
  have HC := Lib.hid (bclone_any A n c l W.drew (HA.out.below (Below.refl _ _).drew) hA hn)
  have HK := Lib.hid (show ∀ W2, Below W.drew.heap.size W.drew W2 → W2.cell? ⟨w.heap.size, 0, none⟩ = some (.slice A n c) ∧ W2.cell? ⟨w.heap.size, 1, none⟩ = some (.int .i64 x) from fun W2 hW => ⟨(HP.out.below (undraw hW)).at_ 0, (HP.out.below (undraw hW)).at_ 1⟩)
  have q0 := (HK.out W.drew (Below.refl _ _)).1
  have q1 := (HK.out W.drew (Below.refl _ _)).2
  go_region_held3 (fun W => W.cell? ⟨w.heap.size, 0, none⟩ = some (.slice A n c) ∧ W.cell? ⟨w.heap.size, 1, none⟩ = some (.int .i64 x))
    (first | go_keep | exact ⟨q0, q1⟩)
    (first | (go_simp; go_at_call 50; (with_reducible refine HC.out.mono ?_); rintro e w2 ⟨v2, rfl, hm2⟩; obtain ⟨A2, c2, rfl, hk2, hf2⟩ := made_key hm2 x; have HK2 := Lib.hid hk2; have HF2 := Lib.hid hf2; have HB2 := Lib.hid (undraw hm2.2.1); have HZ2 := Lib.hid (HZ.out.below (undraw hm2.2.1)); have v0 := HZ2.out.at_ 0; have v1 := HZ2.out.at_ 1; have f0 := HZ2.out.open_ 0; have f1 := HZ2.out.open_ 1; obtain ⟨q0, q1⟩ := HK.out w2 hm2.2.1; clear hm2 hk2 hf2))
  go_wp2
  refine bodyPost_ret (v := .agg #[.slice A2 l.length c2, .int .i64 x]) ?_ rfl ?_
  · rw [results_cell rfl]
    go_simp
  have hs := HB0.out.size
  have hg : W.heap.size ≤ w2.heap.size := HB2.out.size
  have hlt := HZ.out.lt
  have hb : Below W.heap.size w2 ((w2.setCell ⟨w.heap.size + 1, 0, none⟩ (.slice A2 l.length c2)).setCell ⟨w.heap.size + 1, 1, none⟩ (.int .i64 x)) → True := fun _ => trivial
  refine ⟨A2, c2, by rw [hl], (Fr.set (HZ2.out.set 0 _) (by decide) _).key ((Fr.set HZ2.out (by decide) _).key HK2.out), fun b o e => Nat.le_trans hs (HF2.out b o e), ?_⟩
  exact (((on HB0.out HB2.out).setCell (p := ⟨w.heap.size + 1, 0, none⟩) (Nat.le_succ _) _).setCell (p := ⟨w.heap.size + 1, 1, none⟩) (Nat.le_succ _) _)
end Go.Proofs.Ytjlfacmmokfleaa.Bt
