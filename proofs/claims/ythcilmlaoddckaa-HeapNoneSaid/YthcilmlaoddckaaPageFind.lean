/- Where a slot has its data; the first empty slot. -/
import Derived.Test.YthcilmlaoddckaaPageUsed
namespace Go.Proofs.Ythcilmlaoddckaa.Pg
open Go.RowKit Go.Proofs.Ythcilmlaoddckaa.Mem Go.Proofs.Ythcilmlaoddckaa.Right
set_option linter.unusedVariables false
attribute [local go_sem] Oper.semAt_some

/-- Block B holds these cells, of type t. -/
def Cel (W : World) (B : Nat) (t : TypeId) (cs : Array Value) : Prop := W.heap[B]? = some (.cells cs t (0, 0))
theorem Cel.new (W : World) (t : TypeId) (cs : Array Value) {B : Nat} (hB : W.heap.size = B) : Cel (W.alloc (.cells cs t)) B t cs := by subst hB; exact World.alloc_heap_new W _
theorem Cel.alloc {W : World} {B : Nat} {t : TypeId} {cs : Array Value} (h : Cel W B t cs) (o : Obj) : Cel (W.alloc o) B t cs := (Below.heap_alloc W o B (blk_lt h)).trans h
theorem Cel.own {X Y : World} {row : Option Nat} {B : Nat} {t : TypeId} {cs : Array Value} (h : Cel X B t cs) (hg : X.grownBy Y row) (hr : ∀ r, row = some r → ∃ o : Obj, X.heap[r]? = some o ∧ o.isCells = false) : Cel Y B t cs :=
  (hg.block B (blk_lt h) (fun e' => by obtain ⟨o, ho, hc⟩ := hr B e'.symm; rw [show X.heap[B]? = _ from h] at ho; cases ho; cases hc)).trans h
theorem Cel.below {W W' : World} {B : Nat} {t : TypeId} {cs : Array Value} (h : Cel W B t cs) (hb : Below W.heap.size W W') : Cel W' B t cs := (hb.block B (blk_lt h)).trans h
theorem Cel.drewN {W : World} {B : Nat} {t : TypeId} {cs : Array Value} (h : Cel W B t cs) (q : Nat) : Cel (W.drewN q) B t cs := h
theorem Cel.at_ {W : World} {B : Nat} {t : TypeId} {cs : Array Value} (h : Cel W B t cs) (i : Nat) : W.cell? ⟨B, i, none⟩ = cs[i]? := cell_of_row W B i cs t _ h
theorem Cel.open_ {W : World} {B : Nat} {t : TypeId} {cs : Array Value} (h : Cel W B t cs) (i : Nat) : W.frozen? ⟨B, i, none⟩ = false := by
  have h' : W.heap[B]? = some (.cells cs t (0, 0)) := h
  simp only [World.frozen?, h']
  simp
theorem Cel.set {W : World} {B : Nat} {t : TypeId} {cs : Array Value} (h : Cel W B t cs) (i : Nat) (v : Value) : Cel (W.setCell ⟨B, i, none⟩ v) B t (cs.setIfInBounds i v) := blk_set h i v
theorem Cel.other {W : World} {B b : Nat} {t : TypeId} {cs : Array Value} (h : Cel W B t cs) (hb : b ≠ B) (i : Nat) (v : Value) : Cel (W.setCell ⟨b, i, none⟩ v) B t cs := by
  show (W.heap.modify b _)[B]? = _
  rw [Array.getElem?_modify, if_neg hb]; exact h
theorem Cel.three {W : World} {B : Nat} {t : TypeId} {x y z : Value} (h : Cel W B t #[x, y, z]) :
    (W.cell? ⟨B, 0, none⟩ = some x ∧ W.cell? ⟨B, 1, none⟩ = some y ∧ W.cell? ⟨B, 2, none⟩ = some z) ∧ W.frozen? ⟨B, 0, none⟩ = false ∧ W.frozen? ⟨B, 1, none⟩ = false ∧ W.frozen? ⟨B, 2, none⟩ = false :=
  ⟨⟨h.at_ 0, h.at_ 1, h.at_ 2⟩, h.open_ 0, h.open_ 1, h.open_ 2⟩
theorem Cel.one {W : World} {B : Nat} {t : TypeId} {x : Value} (h : Cel W B t #[x]) : W.cell? ⟨B, 0, none⟩ = some x ∧ W.frozen? ⟨B, 0, none⟩ = false := ⟨h.at_ 0, h.open_ 0⟩
/-- What find answers. -/
def findV (S : List Sl) (z : Int) : Value :=
  if 0 ≤ z ∧ full S z.toNat = true then .tuple #[.agg #[.bool true, .int .i64 (to_ S (z.toNat + 1) : Nat), .int .i64 (to_ S z.toNat : Nat)], .int .i64 0]
  else .tuple #[.agg #[.bool false, .int .i64 0, .int .i64 0], .int .i64 4]
theorem ups_mem {n j : Nat} (hj : j < n) : (⟨j, hj⟩ : Ix n) ∈ ups n n := by
  have : ∀ k, j < k → k ≤ n → (⟨j, hj⟩ : Ix n) ∈ ups n k := by
    intro k
    induction k with
    | zero => intro h _; omega
    | succ k ih =>
      intro h hk
      rw [ups_next (by omega)]
      rcases Nat.lt_or_ge j k with h2 | h2
      · exact List.mem_append.2 (.inl (ih h2 (by omega)))
      · have e : j = k := by omega
        subst e
        exact List.mem_append.2 (.inr (by simp))
  exact this n hj (Nat.le_refl _)
/-- The end of find: what lies in the results' cells. -/
theorem fin_cells {w w4 W4 : World} {D : Nat} {tmps : Array Value} {d : List Deferred} {x y u o : Value} {R : Value} (hd : d = [{ target := .collected D, args := #[] }]) (hD : w4.heap.size ≤ D) (s4 : w4.heap.size = w.heap.size + 4) (hK : W4.heap[D]? = some (.deferred (some []))) (hB : Below w.heap.size w W4)
    (h4 : tmps.getD 4 undef = .pointer (some ⟨w.heap.size + 1, 0, none⟩)) (h5 : tmps.getD 5 undef = .pointer (some ⟨w.heap.size + 1 + 1, 0, none⟩))
    (hbs : Cel W4 (w.heap.size + 1) 97 #[x, y, u]) (hbe : Cel W4 (w.heap.size + 1 + 1) 48 #[o]) (hv : R = .tuple #[.agg #[x, y, u], o]) :
    bodyPostM Fence.wide 5 Try.prog Try.f47 (fun e w' => e = .returned R ∧ Below w.heap.size w w') Exit.ret { tmps := tmps, defers := d } W4 := by
  subst hd
  have k1 := hbs.own (grownBy_putObj' _ D (.deferred none)) (fun r e => by cases e; exact ⟨_, hK, rfl⟩)
  have k2 := hbe.own (grownBy_putObj' _ D (.deferred none)) (fun r e => by cases e; exact ⟨_, hK, rfl⟩)
  refine ⟨by simp, .inl ⟨_, _, rfl, run_takeDeferred hK, ?_⟩⟩
  refine ⟨R, ?_, rfl, fin_below hB (by omega) hK rfl rfl⟩
  obtain ⟨⟨a0, a1, a2⟩, _⟩ := k1.three
  obtain ⟨b0, _⟩ := k2.one
  have h4' : tmps[4]?.getD undef = .pointer (some ⟨w.heap.size + 1, 0, none⟩) := by simpa using h4
  have h5' : tmps[5]?.getD undef = .pointer (some ⟨w.heap.size + 1 + 1, 0, none⟩) := by simpa using h5
  simp only [results, Try.f47]
  simp [h4', h5', go_sem, a0, a1, a2, b0, hv]
set_option maxRecDepth 100000 in
set_option maxHeartbeats 1000000 in
theorem find_any (A : Option Addr) (c : Nat) (S : List Sl) (z : Int) (w : World) (h : Pag w A c S) :
    Calls Try.prog 47 #[.slice A 512 c, .int .i64 z] w fun e w' => e = .returned (findV S z) ∧ Below w.heap.size w w' := by
  refine (callsIn_wide (n := 5)).1 ?_
  refine callsIn_of_wp_marks Try.func47 rfl trivial ?_ rfl
  simp only [Try.ntmps47, List.size_toArray, List.length_cons, List.length_nil, Nat.reduceAdd, Nat.reduceSub, Array.replicate_succ, Array.replicate_zero, List.push_toArray, List.append_toArray, List.nil_append, List.cons_append]
  gi_wp2_with (refine ⟨trivial, ?_⟩; gi_at_call 62; refine (callsIn_wide.2 (spots_any _ _ _ _)).mono ?_; rintro e w' ⟨rfl, rfl⟩)
  have hS := h.2
  have hr := hS.room
  obtain ⟨w4, hw4⟩ : ∃ w4, (((w.alloc (.cells #[.int .i64 z] 3)).alloc (.cells #[.bool false, .int .i64 0, .int .i64 0] 97)).alloc (.cells #[.int .i64 0] 48)).alloc (.cells #[.slice A 512 c] 32) = w4 := ⟨_, rfl⟩
  have bZ : Boxed w4 w.heap.size 3 (.int .i64 z) := by rw [← hw4]; exact (((Boxed.new w _ _).alloc _).alloc _).alloc _
  have bS : Cel w4 (w.heap.size + 1) 97 #[.bool false, .int .i64 0, .int .i64 0] := by rw [← hw4]; exact ((Cel.new (w.alloc _) _ _ (by simp)).alloc _).alloc _
  have bE : Cel w4 (w.heap.size + 1 + 1) 48 #[.int .i64 0] := by rw [← hw4]; exact (Cel.new ((w.alloc _).alloc _) _ _ (by simp)).alloc _
  have bP : Boxed w4 (w.heap.size + 1 + 1 + 1) 32 (.slice A 512 c) := by rw [← hw4]; exact Cel.new (((w.alloc _).alloc _).alloc _) _ _ (by simp)
  have s4 : w4.heap.size = w.heap.size + 4 := by rw [← hw4]; simp
  have hB0 : Below w.heap.size w w4 := by rw [← hw4]; exact al (al (al (al (Below.refl _ _) _) _) _) _
  rw [hw4]
  clear hw4
  refine wp_spots (by omega) (w.heap.size + 1 + 1 + 1) w.heap.size A c S hS bP (by omega) (h.1.1.below hB0 (Nat.le_refl _)) h.1.2.2 rfl rfl
    (fun pre W => ((∀ x ∈ pre, ¬ ((x.1 : Int) = z ∧ full S x.1 = true)) ∧ Boxed W w.heap.size 3 (.int .i64 z) ∧ Cel W (w.heap.size + 1) 97 #[.bool false, .int .i64 0, .int .i64 0] ∧ Cel W (w.heap.size + 1 + 1) 48 #[.int .i64 0]) ∧ Below w.heap.size w W)
    (fun c pre W => (c = .ret ∧ ∃ x ∈ pre, ((x.1 : Int) = z ∧ full S x.1 = true) ∧ Cel W (w.heap.size + 1) 97 #[.bool true, .int .i64 (to_ S (x.1 + 1) : Nat), .int .i64 (to_ S x.1 : Nat)] ∧ Cel W (w.heap.size + 1 + 1) 48 #[.int .i64 0]) ∧ Below w.heap.size w W)
    (OwnFrom.and (Own.from (fun s X Y row hs hg hr => ⟨hs.1, Cel.own hs.2.1 hg hr, Cel.own hs.2.2.1 hg hr, Cel.own hs.2.2.2 hg hr⟩) _) (ownFrom_below (Nat.le_refl _) (by omega)))
    (fun c => OwnFrom.and (Own.from (fun s X Y row hs hg hr => by obtain ⟨e, x, hx, h1, h2, h3⟩ := hs; exact ⟨e, x, hx, h1, Cel.own h2 hg hr, Cel.own h3 hg hr⟩) _) (ownFrom_below (Nat.le_refl _) (by omega)))
    ⟨⟨by simp, bZ, bS, bE⟩, hB0⟩ w.heap.size (Nat.le_refl _) (fun pre W hi => hi.2.size)
    (fun x Bx => { tmps := #[.slice A 512 c, .int .i64 z, undef, .pointer (some ⟨w.heap.size, 0, none⟩), .pointer (some ⟨w.heap.size + 1, 0, none⟩), .pointer (some ⟨w.heap.size + 1 + 1, 0, none⟩), .int .i64 (x.1 : Int), .pointer (some ⟨Bx, 0, none⟩), .slice A 512 c, .func (.func 71) #[] #[.pointer (some ⟨w.heap.size + 1 + 1 + 1, 0, none⟩)], .int .i64 (x.1 : Int), .agg #[.bool (full S x.1), .int .i64 (to_ S (x.1 + 1) : Nat), .int .i64 (to_ S x.1 : Nat)], undef, undef, undef, undef, undef, undef, undef, undef, undef], defers := [] }) ?assign ?body ?done ?stop
  case assign =>
    intro l x W K hK
    simp only [spv]
    gi_wp2
    exact hK
  case body =>
    rintro l pre x Bx W hBx ⟨⟨hp, hbz, hbs, hbe⟩, hB⟩ hs _
    obtain ⟨c0, c1, c2⟩ := hs.cells
    have hcz := hbz.cell
    obtain ⟨⟨s0, s1, s2⟩, g0, g1, g2⟩ := hbs.three
    obtain ⟨e0, e1⟩ := hbe.one
    have HP := Lib.hid hp
    clear hp
    by_cases hz : (x.1 : Int) = z
    · subst hz
      cases hfu : full S x.1 with
      | true =>
        rw [hfu] at c0
        have HU := Lib.hid hfu
        clear hfu
        gi_wp2
        have q1 := (((hbs.set 0 (.bool true)).set 1 (.int .i64 (to_ S (x.1 + 1) : Nat))).set 2 (.int .i64 (to_ S x.1 : Nat))).other (b := w.heap.size + 1 + 1) (by omega) 0 (.int .i64 0)
        have q2 := (((hbe.other (b := w.heap.size + 1) (by omega) 0 (.bool true)).other (b := w.heap.size + 1) (by omega) 1 (.int .i64 (to_ S (x.1 + 1) : Nat))).other (b := w.heap.size + 1) (by omega) 2 (.int .i64 (to_ S x.1 : Nat))).set 0 (.int .i64 0)
        exact ⟨(((((KeepsOthers.setCell _ _ _).trans (KeepsOthers.setCell _ _ _)).trans (KeepsOthers.setCell _ _ _)).trans (KeepsOthers.setCell _ _ _))).from _, ⟨rfl, x, by simp, ⟨rfl, HU.out⟩, q1, q2⟩,
          (((hB.setCell (p := ⟨w.heap.size + 1, 0, none⟩) (by simp) _).setCell (p := ⟨w.heap.size + 1, 1, none⟩) (by simp) _).setCell (p := ⟨w.heap.size + 1, 2, none⟩) (by simp) _).setCell (p := ⟨w.heap.size + 1 + 1, 0, none⟩) (by simp; omega) _⟩
      | false =>
        rw [hfu] at c0
        have HU := Lib.hid hfu
        clear hfu
        gi_wp2
        refine ⟨KeepsFrom.refl _ _, kp_refl _ _ _, ⟨?_, hbz, hbs, hbe⟩, hB⟩
        intro y hy
        rcases List.mem_append.1 hy with hy | hy
        · exact HP.out y hy
        · rw [List.mem_singleton] at hy
          subst hy
          rw [HU.out]; simp
    · have t1 := beq_no hz
      have HZ := Lib.hid hz
      clear hz
      gi_wp2
      refine ⟨KeepsFrom.refl _ _, kp_refl _ _ _, ⟨?_, hbz, hbs, hbe⟩, hB⟩
      intro y hy
      rcases List.mem_append.1 hy with hy | hy
      · exact HP.out y hy
      · rw [List.mem_singleton] at hy
        subst hy
        exact fun hh => HZ.out hh.1
  case done =>
    rintro D W hD ⟨⟨hp, hbz, hbs, hbe⟩, hB⟩ hK
    obtain ⟨⟨s0, s1, s2⟩, g0, g1, g2⟩ := hbs.three
    obtain ⟨e0, e1⟩ := hbe.one
    have HP := Lib.hid hp
    clear hp
    gi_wp2
    have q1 := (((hbs.set 0 (.bool false)).set 1 (.int .i64 0)).set 2 (.int .i64 0)).other (b := w.heap.size + 1 + 1) (by omega) 0 (.int .i64 4)
    have q2 := (((hbe.other (b := w.heap.size + 1) (by omega) 0 (.bool false)).other (b := w.heap.size + 1) (by omega) 1 (.int .i64 0)).other (b := w.heap.size + 1) (by omega) 2 (.int .i64 0)).set 0 (.int .i64 4)
    have hB4 := ((((hB.setCell (p := ⟨w.heap.size + 1, 0, none⟩) (by simp) (.bool false)).setCell (p := ⟨w.heap.size + 1, 1, none⟩) (by simp) (.int .i64 0)).setCell (p := ⟨w.heap.size + 1, 2, none⟩) (by simp) (.int .i64 0)).setCell (p := ⟨w.heap.size + 1 + 1, 0, none⟩) (by simp; omega) (.int .i64 4))
    have hK' := (((((KeepsOthers.setCell W ⟨w.heap.size + 1, 0, none⟩ (.bool false)).trans (KeepsOthers.setCell _ ⟨w.heap.size + 1, 1, none⟩ (.int .i64 0))).trans (KeepsOthers.setCell _ ⟨w.heap.size + 1, 2, none⟩ (.int .i64 0))).trans (KeepsOthers.setCell _ ⟨w.heap.size + 1 + 1, 0, none⟩ (.int .i64 4)))).same D _ hK rfl
    obtain ⟨W4, hW4⟩ : ∃ W4, (((W.setCell ⟨w.heap.size + 1, 0, none⟩ (.bool false)).setCell ⟨w.heap.size + 1, 1, none⟩ (.int .i64 0)).setCell ⟨w.heap.size + 1, 2, none⟩ (.int .i64 0)).setCell ⟨w.heap.size + 1 + 1, 0, none⟩ (.int .i64 4) = W4 := ⟨_, rfl⟩
    rw [hW4] at q1 q2 hB4 hK' ⊢
    clear hW4 s0 s1 s2 g0 g1 g2 e0 e1
    have hv : findV S z = .tuple #[.agg #[.bool false, .int .i64 0, .int .i64 0], .int .i64 4] := by
      unfold findV
      rw [if_neg]
      rintro ⟨h1, h2⟩
      have hlt : z.toNat < S.length := by
        rcases Nat.lt_or_ge z.toNat S.length with h3 | h3
        · exact h3
        · rw [full_not h3] at h2; cases h2
      exact HP.out ⟨z.toNat, hlt⟩ (ups_mem hlt) ⟨by simp; omega, h2⟩
    exact fin_cells rfl hD s4 hK' hB4 rfl rfl q1 q2 hv
  case stop =>
    rintro D c k W hD hk ⟨⟨rfl, x, hx, hh, hbs, hbe⟩, hB⟩ hK
    gi_wp2
    have hv : findV S z = .tuple #[.agg #[.bool true, .int .i64 (to_ S (x.1 + 1) : Nat), .int .i64 (to_ S x.1 : Nat)], .int .i64 0] := by
      obtain ⟨h1, h2⟩ := hh
      subst h1
      unfold findV
      rw [if_pos ⟨by omega, by simpa using h2⟩]
      rfl
    exact fin_cells rfl hD s4 hK hB rfl rfl hbs hbe hv
end Go.Proofs.Ythcilmlaoddckaa.Pg
