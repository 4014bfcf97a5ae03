/- The first empty slot, or a new one. -/
import Derived.Test.YtgoadmkenglglaaPageFind
import Derived.Test.YtgoadmkenglglaaPagePutMath
namespace Go.Proofs.Ytgoadmkenglglaa.Pg
open Go.RowKit Go.Proofs.Ytgoadmkenglglaa.Mem Go.Proofs.Ytgoadmkenglglaa.Right
set_option linter.unusedVariables false
attribute [local go_sem] Oper.semAt_some

theorem ups_in {n j k : Nat} (hj : j < k) (hk : k ≤ n) : (⟨j, Nat.lt_of_lt_of_le hj hk⟩ : Ix n) ∈ ups n k := by
  induction k with
  | zero => omega
  | succ k ih =>
    rw [ups_next (by omega)]
    rcases Nat.lt_or_ge j k with h2 | h2
    · exact List.mem_append.2 (.inl (ih h2 (by omega)))
    · have e : j = k := by omega
      subst e
      exact List.mem_append.2 (.inr (by simp))
/-- What free answers. -/
def freeV (S : List Sl) : Value := .tuple #[.int .i64 (freeN S : Nat), .agg #[.bool false, .int .i64 (to_ S (freeN S) : Nat), .int .i64 (to_ S (freeN S) : Nat)]]
theorem fin_free {w w4 W4 : World} {D : Nat} {tmps : Array Value} {d : List Deferred} {x y u o : Value} {R : Value} (hd : d = [{ target := .collected D, args := #[] }]) (hD : w4.heap.size ≤ D) (s4 : w4.heap.size = w.heap.size + 3) (hK : W4.heap[D]? = some (.deferred (some []))) (hB : Below w.heap.size w W4)
    (h4 : tmps.getD 2 undef = .pointer (some ⟨w.heap.size, 0, none⟩)) (h5 : tmps.getD 3 undef = .pointer (some ⟨w.heap.size + 1, 0, none⟩))
    (hbe : Cel W4 w.heap.size 3 #[o]) (hbs : Cel W4 (w.heap.size + 1) 62 #[x, y, u]) (hv : R = .tuple #[o, .agg #[x, y, u]]) :
    bodyPostM Fence.wide 5 Try.prog Try.f33 (fun e w' => e = .returned R ∧ Below w.heap.size w w') Exit.ret { tmps := tmps, defers := d } W4 := by
  subst hd
  have k1 := hbs.own (grownBy_putObj' _ D (.deferred none)) (fun r e => by cases e; exact ⟨_, hK, rfl⟩)
  have k2 := hbe.own (grownBy_putObj' _ D (.deferred none)) (fun r e => by cases e; exact ⟨_, hK, rfl⟩)
  refine ⟨by simp, .inl ⟨_, _, rfl, run_takeDeferred hK, ?_⟩⟩
  refine ⟨R, ?_, rfl, fin_below hB (by omega) hK rfl rfl⟩
  obtain ⟨⟨a0, a1, a2⟩, _⟩ := k1.three
  obtain ⟨b0, _⟩ := k2.one
  have h4' : tmps[2]?.getD undef = .pointer (some ⟨w.heap.size, 0, none⟩) := by simpa using h4
  have h5' : tmps[3]?.getD undef = .pointer (some ⟨w.heap.size + 1, 0, none⟩) := by simpa using h5
  simp only [results, Try.f33]
  simp [h4', h5', go_sem, a0, a1, a2, b0, hv]
set_option maxRecDepth 100000 in
set_option maxHeartbeats 1000000 in
theorem free_any (A : Option Addr) (c : Nat) (S : List Sl) (w : World) (h : Pag w A c S) :
    Calls Try.prog 33 #[.slice A 512 c] w fun e w' => e = .returned (freeV S) ∧ Below w.heap.size w w' := by
  refine (callsIn_wide (n := 5)).1 ?_
  refine callsIn_of_wp_marks Try.func33 rfl trivial ?_ rfl
  simp only [Try.ntmps33, List.size_toArray, List.length_cons, List.length_nil, Nat.reduceAdd, Nat.reduceSub, Array.replicate_succ, Array.replicate_zero, List.push_toArray, List.append_toArray, List.nil_append, List.cons_append]
  gi_wp2_with (refine ⟨trivial, ?_⟩; gi_at_call 28; refine (callsIn_wide.2 (spots_any _ _ _ _)).mono ?_; rintro e w' ⟨rfl, rfl⟩)
  have hS := h.2
  have hr := hS.room
  obtain ⟨w4, hw4⟩ : ∃ w4, ((w.alloc (.cells #[.int .i64 0] 3)).alloc (.cells #[.bool false, .int .i64 0, .int .i64 0] 62)).alloc (.cells #[.slice A 512 c] 23) = w4 := ⟨_, rfl⟩
  have bZ : Cel w4 w.heap.size 3 #[.int .i64 0] := by rw [← hw4]; exact ((Cel.new w _ _ rfl).alloc _).alloc _
  have bS : Cel w4 (w.heap.size + 1) 62 #[.bool false, .int .i64 0, .int .i64 0] := by rw [← hw4]; exact (Cel.new (w.alloc _) _ _ (by simp)).alloc _
  have bP : Boxed w4 (w.heap.size + 1 + 1) 23 (.slice A 512 c) := by rw [← hw4]; exact Cel.new ((w.alloc _).alloc _) _ _ (by simp)
  have s4 : w4.heap.size = w.heap.size + 3 := by rw [← hw4]; simp
  have hB0 : Below w.heap.size w w4 := by rw [← hw4]; exact al (al (al (Below.refl _ _) _) _) _
  rw [hw4]
  clear hw4
  refine wp_spots (by omega) (w.heap.size + 1 + 1) w.heap.size A c S hS bP (by omega) (h.1.1.below hB0 (Nat.le_refl _)) h.1.2.2 rfl rfl
    (fun pre W => ((∀ x ∈ pre, full S x.1 = true) ∧ Cel W w.heap.size 3 #[.int .i64 0] ∧ Cel W (w.heap.size + 1) 62 #[.bool false, .int .i64 0, .int .i64 0] ∧ w4.heap.size ≤ W.heap.size) ∧ Below w.heap.size w W)
    (fun c pre W => (c = .ret ∧ ∃ ini x, pre = ini ++ [x] ∧ (∀ y ∈ ini, full S y.1 = true) ∧ full S x.1 = false ∧ Cel W w.heap.size 3 #[.int .i64 (x.1 : Int)] ∧ Cel W (w.heap.size + 1) 62 #[.bool false, .int .i64 (to_ S (x.1 + 1) : Nat), .int .i64 (to_ S x.1 : Nat)]) ∧ Below w.heap.size w W)
    (OwnFrom.and (Own.from (fun s X Y row hs hg hr => ⟨hs.1, Cel.own hs.2.1 hg hr, Cel.own hs.2.2.1 hg hr, Nat.le_trans hs.2.2.2 hg.size⟩) _) (ownFrom_below (Nat.le_refl _) (by omega)))
    (fun c => OwnFrom.and (Own.from (fun s X Y row hs hg hr => by obtain ⟨e, ini, x, hx, h1, h2, h3, h4⟩ := hs; exact ⟨e, ini, x, hx, h1, h2, Cel.own h3 hg hr, Cel.own h4 hg hr⟩) _) (ownFrom_below (Nat.le_refl _) (by omega)))
    ⟨⟨by simp, bZ, bS, Nat.le_refl _⟩, hB0⟩ w4.heap.size (by omega) (fun pre W hi => hi.1.2.2.2)
    (fun x Bx => { tmps := #[.slice A 512 c, undef, .pointer (some ⟨w.heap.size, 0, none⟩), .pointer (some ⟨w.heap.size + 1, 0, none⟩), .int .i64 (x.1 : Int), .pointer (some ⟨Bx, 0, none⟩), undef, undef, .slice A 512 c, .func (.func 43) #[] #[.pointer (some ⟨w.heap.size + 1 + 1, 0, none⟩)], .int .i64 (x.1 : Int), .agg #[.bool (full S x.1), .int .i64 (to_ S (x.1 + 1) : Nat), .int .i64 (to_ S x.1 : Nat)], undef, undef, undef, undef, undef, undef, undef, undef, undef, undef, undef, undef, undef, undef, undef], defers := [] }) ?assign ?body ?done ?stop
  case assign =>
    intro l x W K hK
    simp only [spv]
    gi_wp2
    exact hK
  case body =>
    rintro l pre x Bx W hBx ⟨⟨hp, hbe, hbs, hsz⟩, hB⟩ hs _
    obtain ⟨c0, c1, c2⟩ := hs.cells
    obtain ⟨⟨s0, s1, s2⟩, g0, g1, g2⟩ := hbs.three
    obtain ⟨e0, e1⟩ := hbe.one
    have HP := Lib.hid hp
    clear hp
    have n1 : ¬ Bx = w.heap.size := by omega
    have n2 : ¬ Bx = w.heap.size + 1 := by omega
    cases hfu : full S x.1 with
    | true =>
      rw [hfu] at c0
      have HU := Lib.hid hfu
      clear hfu
      gi_wp2
      refine ⟨KeepsFrom.refl _ _, kp_refl _ _ _, ⟨?_, hbe, hbs, hsz⟩, hB⟩
      intro y hy
      rcases List.mem_append.1 hy with hy | hy
      · exact HP.out y hy
      · rw [List.mem_singleton] at hy
        subst hy
        exact HU.out
    | false =>
      rw [hfu] at c0
      have HU := Lib.hid hfu
      clear hfu
      have hmx : Try.prog.follows .mixedOrders = true := by kernel_rfl
      gi_wp2
      gi_region_with_o (fail)
      all_goals gi_wp2
      all_goals
        have q1 := (((hbe.set 0 (.int .i64 (x.1 : Int))).other (b := w.heap.size + 1) (by omega) 0 (.bool false)).other (b := w.heap.size + 1) (by omega) 1 (.int .i64 (to_ S (x.1 + 1) : Nat))).other (b := w.heap.size + 1) (by omega) 2 (.int .i64 (to_ S x.1 : Nat))
        have q2 := (((hbs.other (b := w.heap.size) (by omega) 0 (.int .i64 (x.1 : Int))).set 0 (.bool false)).set 1 (.int .i64 (to_ S (x.1 + 1) : Nat))).set 2 (.int .i64 (to_ S x.1 : Nat))
        exact ⟨(((((KeepsOthers.setCell _ _ _).trans (KeepsOthers.setCell _ _ _)).trans (KeepsOthers.setCell _ _ _)).trans (KeepsOthers.setCell _ _ _)).trans (KeepsOthers.drew _)).from _, ⟨rfl, pre, x, rfl, HP.out, HU.out, q1, q2⟩,
          ((((hB.setCell (p := ⟨w.heap.size, 0, none⟩) (by simp) _).setCell (p := ⟨w.heap.size + 1, 0, none⟩) (by simp) _).setCell (p := ⟨w.heap.size + 1, 1, none⟩) (by simp) _).setCell (p := ⟨w.heap.size + 1, 2, none⟩) (by simp) _).drew⟩
  case done =>
    rintro D W hD ⟨⟨hp, hbe, hbs, hsz⟩, hB⟩ hK
    have HP := Lib.hid hp
    clear hp
    have HG := Lib.hid (gap_any A c S W (h.below hB))
    have HC : Hid (∀ W', Below W.heap.size W W' → Calls Try.prog 26 #[.slice A 512 c] W' fun e w' => e = .returned (.int .i64 (S.length : Int)) ∧ ∃ q, w' = W'.drewN q) := Lib.hid fun W' hW' => count_any A c S W' ((h.below hB).below hW')
    clear h
    gi_wp2_with first | (refine ⟨trivial, ?_⟩; gi_at_call 30; refine (callsIn_wide.2 HG.out).mono ?_; rintro e w1 ⟨rfl, hb1⟩; have HB1 := Lib.hid hb1; obtain ⟨⟨s0, s1, s2⟩, g0, g1, g2⟩ := (hbs.below hb1).three; obtain ⟨e0, e1⟩ := (hbe.below hb1).one; clear hb1) | (refine ⟨trivial, ?_⟩; gi_at_call 26; refine (callsIn_wide.2 (HC.out _ HB1.out)).mono ?_; rintro e w2 ⟨rfl, q, rfl⟩)
    have q1 := (((((hbe.below HB1.out).drewN q).set 0 (.int .i64 (S.length : Int))).other (b := w.heap.size + 1) (by omega) 0 (.bool false)).other (b := w.heap.size + 1) (by omega) 1 (.int .i64 (512 - tot S : Nat))).other (b := w.heap.size + 1) (by omega) 2 (.int .i64 (512 - tot S : Nat))
    have q2 := (((((hbs.below HB1.out).drewN q).other (b := w.heap.size) (by omega) 0 (.int .i64 (S.length : Int))).set 0 (.bool false)).set 1 (.int .i64 (512 - tot S : Nat))).set 2 (.int .i64 (512 - tot S : Nat))
    have hB1 : Below w.heap.size w (w1.drewN q) := below_drewN (hB.trans (HB1.out.mono hB.size)) q
    have hB4 := ((((hB1.setCell (p := ⟨w.heap.size, 0, none⟩) (by simp) (.int .i64 (S.length : Int))).setCell (p := ⟨w.heap.size + 1, 0, none⟩) (by simp) (.bool false)).setCell (p := ⟨w.heap.size + 1, 1, none⟩) (by simp) (.int .i64 (512 - tot S : Nat))).setCell (p := ⟨w.heap.size + 1, 2, none⟩) (by simp) (.int .i64 (512 - tot S : Nat)))
    have hK1 : (w1.drewN q).heap[D]? = some (.deferred (some [])) := (HB1.out.block D (blk_lt hK)).trans hK
    have hK' := (((((KeepsOthers.setCell (w1.drewN q) ⟨w.heap.size, 0, none⟩ (.int .i64 (S.length : Int))).trans (KeepsOthers.setCell _ ⟨w.heap.size + 1, 0, none⟩ (.bool false))).trans (KeepsOthers.setCell _ ⟨w.heap.size + 1, 1, none⟩ (.int .i64 (512 - tot S : Nat)))).trans (KeepsOthers.setCell _ ⟨w.heap.size + 1, 2, none⟩ (.int .i64 (512 - tot S : Nat))))).same D _ hK1 rfl
    have hv : freeV S = .tuple #[.int .i64 (S.length : Int), .agg #[.bool false, .int .i64 (512 - tot S : Nat), .int .i64 (512 - tot S : Nat)]] := by
      have hf : freeN S = S.length := freeN_is (Nat.le_refl _) (fun j hj => HP.out ⟨j, hj⟩ (ups_in hj (Nat.le_refl _))) (fun h => absurd h (Nat.lt_irrefl _))
      unfold freeV
      rw [hf, to_all]
    exact fin_free rfl hD s4 hK' hB4 rfl rfl q1 q2 hv
  case stop =>
    rintro D c k W hD hk ⟨⟨rfl, ini, x, hx, h1, h2, hbe, hbs⟩, hB⟩ hK
    gi_wp2
    have hv : freeV S = .tuple #[.int .i64 (x.1 : Int), .agg #[.bool false, .int .i64 (to_ S (x.1 + 1) : Nat), .int .i64 (to_ S x.1 : Nat)]] := by
      obtain ⟨k', rfl⟩ : ∃ k', k = k' + 1 := by
        cases k with
        | zero => simp [ups] at hx
        | succ k' => exact ⟨k', rfl⟩
      rw [ups_next (by omega)] at hx
      obtain ⟨rfl, e5⟩ := List.append_inj' hx rfl
      have e6 : k' = x.1 := congrArg Subtype.val (List.cons.inj e5).1
      rw [← e6] at h2 ⊢
      have hf : freeN S = k' := freeN_is (by omega) (fun j hj => h1 ⟨j, by omega⟩ (ups_in hj (by omega))) (fun _ => h2)
      have h4 : to_ S (k' + 1) = to_ S k' := by
        have hs : S[k']? = some S[k'] := List.getElem?_eq_getElem (by omega)
        have h5 := full_of hs
        rw [h5] at h2
        have := to_next hs
        cases hc : S[k'] with
        | none => rw [hc] at this; exact this
        | some d => rw [hc] at h2; cases h2
      unfold freeV
      rw [hf, h4]
    exact fin_free rfl hD s4 hK hB rfl rfl hbe hbs hv
end Go.Proofs.Ytgoadmkenglglaa.Pg
