import Derived.Test.YthcilmlaoddckaaPageFind
import Derived.Test.YthcilmlaoddckaaPagePutMath
import Derived.Test.YthcilmlaoddckaaPageLay
/- The first empty slot, or a new one. -/
namespace Go.Proofs.Ythcilmlaoddckaa.Pg
open Go.RowKit Go.Proofs.Ythcilmlaoddckaa.Mem Go.Proofs.Ythcilmlaoddckaa.Right
set_option linter.unusedVariables false
attribute [local go_sem] Oper.semAt_some

theorem ups_in {n j k : Nat} (hj : j < k) (hk : k ≤ n) : (⟨j, Nat.lt_of_lt_of_le hj hk⟩ : Ix n) ∈ ups n k := by
  induction k with
  | zero => omega
  | succ k ih =>
    rw [ups_next (by omega)]
    rcases Nat.lt_or_ge j k with h2 | h2
    · exact List.mem_append.2 (.inl (ih h2 (by omega)))
    · have e : j = k := by omega
      subst e
      exact List.mem_append.2 (.inr (by simp))
/-- What free answers. -/
def freeV (S : List Sl) : Value := .tuple #[.int .i64 (freeN S : Nat), .agg #[.bool false, .int .i64 (to_ S (freeN S) : Nat), .int .i64 (to_ S (freeN S) : Nat)]]
theorem fin_free {w w4 W4 : World} {D : Nat} {tmps : Array Value} {d : List Deferred} {x y u o : Value} {R : Value} (hd : d = [{ target := .collected D, args := #[] }]) (hD : w4.heap.size ≤ D) (s4 : w4.heap.size = w.heap.size + 3) (hK : W4.heap[D]? = some (.deferred (some []))) (hB : Below w.heap.size w W4)
    (h4 : tmps.getD 2 undef = .pointer (some ⟨w.heap.size, 0, none⟩)) (h5 : tmps.getD 3 undef = .pointer (some ⟨w.heap.size + 1, 0, none⟩))
    (hbe : Cel W4 w.heap.size 3 #[o]) (hbs : Cel W4 (w.heap.size + 1) 97 #[x, y, u]) (hv : R = .tuple #[o, .agg #[x, y, u]]) :
    bodyPostM Fence.wide 5 Try.prog Try.f75 (fun e w' => e = .returned R ∧ Below w.heap.size w w') Exit.ret { tmps := tmps, defers := d } W4 := by
  subst hd
  have k1 := hbs.own (grownBy_putObj' _ D (.deferred none)) (fun r e => by cases e; exact ⟨_, hK, rfl⟩)
  have k2 := hbe.own (grownBy_putObj' _ D (.deferred none)) (fun r e => by cases e; exact ⟨_, hK, rfl⟩)
  refine ⟨by simp, .inl ⟨_, _, rfl, run_takeDeferred hK, ?_⟩⟩
  refine ⟨R, ?_, rfl, fin_below hB (by omega) hK rfl rfl⟩
  obtain ⟨⟨a0, a1, a2⟩, _⟩ := k1.three
  obtain ⟨b0, _⟩ := k2.one
  have h4' : tmps[2]?.getD undef = .pointer (some ⟨w.heap.size, 0, none⟩) := by simpa using h4
  have h5' : tmps[3]?.getD undef = .pointer (some ⟨w.heap.size + 1, 0, none⟩) := by simpa using h5
  simp only [results, Try.f75]
  simp [h4', h5', go_sem, a0, a1, a2, b0, hv]
set_option maxRecDepth 100000 in
set_option maxHeartbeats 1000000 in
theorem free_any (A : Option Addr) (c : Nat) (S : List Sl) (w : World) (h : Pag w A c S) :
    Calls Try.prog 75 #[.slice A 512 c] w fun e w' => e = .returned (freeV S) ∧ Below w.heap.size w w' := by
  refine (callsIn_wide (n := 5)).1 ?_
  refine callsIn_of_wp_marks Try.func75 rfl trivial ?_ rfl
  simp only [Try.ntmps75, List.size_toArray, List.length_cons, List.length_nil, Nat.reduceAdd, Nat.reduceSub, Array.replicate_succ, Array.replicate_zero, List.push_toArray, List.append_toArray, List.nil_append, List.cons_append]
  gi_wp2_with (refine ⟨trivial, ?_⟩; gi_at_call 62; refine (callsIn_wide.2 (spots_any _ _ _ _)).mono ?_; rintro e w' ⟨rfl, rfl⟩)
  have hS := h.2
  have hr := hS.room
  obtain ⟨w4, hw4⟩ : ∃ w4, ((w.alloc (.cells #[.int .i64 0] 3)).alloc (.cells #[.bool false, .int .i64 0, .int .i64 0] 97)).alloc (.cells #[.slice A 512 c] 32) = w4 := ⟨_, rfl⟩
  have bZ : Cel w4 w.heap.size 3 #[.int .i64 0] := by rw [← hw4]; exact ((Cel.new w _ _ rfl).alloc _).alloc _
  have bS : Cel w4 (w.heap.size + 1) 97 #[.bool false, .int .i64 0, .int .i64 0] := by rw [← hw4]; exact (Cel.new (w.alloc _) _ _ (by simp)).alloc _
  have bP : Boxed w4 (w.heap.size + 1 + 1) 32 (.slice A 512 c) := by rw [← hw4]; exact Cel.new ((w.alloc _).alloc _) _ _ (by simp)
  have s4 : w4.heap.size = w.heap.size + 3 := by rw [← hw4]; simp
  have hB0 : Below w.heap.size w w4 := by rw [← hw4]; exact al (al (al (Below.refl _ _) _) _) _
  rw [hw4]
  clear hw4
  refine wp_spots (by omega) (w.heap.size + 1 + 1) w.heap.size A c S hS bP (by omega) (h.1.1.below hB0 (Nat.le_refl _)) h.1.2.2 rfl rfl
    (fun pre W => ((∀ x ∈ pre, full S x.1 = true) ∧ Cel W w.heap.size 3 #[.int .i64 0] ∧ Cel W (w.heap.size + 1) 97 #[.bool false, .int .i64 0, .int .i64 0] ∧ w4.heap.size ≤ W.heap.size) ∧ Below w.heap.size w W)
    (fun c pre W => (c = .ret ∧ ∃ ini x, pre = ini ++ [x] ∧ (∀ y ∈ ini, full S y.1 = true) ∧ full S x.1 = false ∧ Cel W w.heap.size 3 #[.int .i64 (x.1 : Int)] ∧ Cel W (w.heap.size + 1) 97 #[.bool false, .int .i64 (to_ S (x.1 + 1) : Nat), .int .i64 (to_ S x.1 : Nat)]) ∧ Below w.heap.size w W)
    (OwnFrom.and (Own.from (fun s X Y row hs hg hr => ⟨hs.1, Cel.own hs.2.1 hg hr, Cel.own hs.2.2.1 hg hr, Nat.le_trans hs.2.2.2 hg.size⟩) _) (ownFrom_below (Nat.le_refl _) (by omega)))
    (fun c => OwnFrom.and (Own.from (fun s X Y row hs hg hr => by obtain ⟨e, ini, x, hx, h1, h2, h3, h4⟩ := hs; exact ⟨e, ini, x, hx, h1, h2, Cel.own h3 hg hr, Cel.own h4 hg hr⟩) _) (ownFrom_below (Nat.le_refl _) (by omega)))
    ⟨⟨by simp, bZ, bS, Nat.le_refl _⟩, hB0⟩ w4.heap.size (by omega) (fun pre W hi => hi.1.2.2.2)
    (fun x Bx => { tmps := #[.slice A 512 c, undef, .pointer (some ⟨w.heap.size, 0, none⟩), .pointer (some ⟨w.heap.size + 1, 0, none⟩), .int .i64 (x.1 : Int), .pointer (some ⟨Bx, 0, none⟩), undef, undef, .slice A 512 c, .func (.func 71) #[] #[.pointer (some ⟨w.heap.size + 1 + 1, 0, none⟩)], .int .i64 (x.1 : Int), .agg #[.bool (full S x.1), .int .i64 (to_ S (x.1 + 1) : Nat), .int .i64 (to_ S x.1 : Nat)], undef, undef, undef, undef, undef, undef, undef, undef, undef, undef, undef, undef, undef, undef, undef], defers := [] }) ?assign ?body ?done ?stop
  case assign =>
    intro l x W K hK
    simp only [spv]
    gi_wp2
    exact hK
  case body =>
    rintro l pre x Bx W hBx ⟨⟨hp, hbe, hbs, hsz⟩, hB⟩ hs _
    obtain ⟨c0, c1, c2⟩ := hs.cells
    obtain ⟨⟨s0, s1, s2⟩, g0, g1, g2⟩ := hbs.three
    obtain ⟨e0, e1⟩ := hbe.one
    have HP := Lib.hid hp
    clear hp
    have n1 : ¬ Bx = w.heap.size := by omega
    have n2 : ¬ Bx = w.heap.size + 1 := by omega
    cases hfu : full S x.1 with
    | true =>
      rw [hfu] at c0
      have HU := Lib.hid hfu
      clear hfu
      gi_wp2
      refine ⟨KeepsFrom.refl _ _, kp_refl _ _ _, ⟨?_, hbe, hbs, hsz⟩, hB⟩
      intro y hy
      rcases List.mem_append.1 hy with hy | hy
      · exact HP.out y hy
      · rw [List.mem_singleton] at hy
        subst hy
        exact HU.out
    | false =>
      rw [hfu] at c0
      have HU := Lib.hid hfu
      clear hfu
      have hmx : Try.prog.follows .mixedOrders = true := by kernel_rfl
      gi_wp2
      gi_region_with_o (fail)
      all_goals gi_wp2
      all_goals
        have q1 := (((hbe.set 0 (.int .i64 (x.1 : Int))).other (b := w.heap.size + 1) (by omega) 0 (.bool false)).other (b := w.heap.size + 1) (by omega) 1 (.int .i64 (to_ S (x.1 + 1) : Nat))).other (b := w.heap.size + 1) (by omega) 2 (.int .i64 (to_ S x.1 : Nat))
        have q2 := (((hbs.other (b := w.heap.size) (by omega) 0 (.int .i64 (x.1 : Int))).set 0 (.bool false)).set 1 (.int .i64 (to_ S (x.1 + 1) : Nat))).set 2 (.int .i64 (to_ S x.1 : Nat))
        exact ⟨(((((KeepsOthers.setCell _ _ _).trans (KeepsOthers.setCell _ _ _)).trans (KeepsOthers.setCell _ _ _)).trans (KeepsOthers.setCell _ _ _)).trans (KeepsOthers.drew _)).from _, ⟨rfl, pre, x, rfl, HP.out, HU.out, q1, q2⟩,
          ((((hB.setCell (p := ⟨w.heap.size, 0, none⟩) (by simp) _).setCell (p := ⟨w.heap.size + 1, 0, none⟩) (by simp) _).setCell (p := ⟨w.heap.size + 1, 1, none⟩) (by simp) _).setCell (p := ⟨w.heap.size + 1, 2, none⟩) (by simp) _).drew⟩
  case done =>
    rintro D W hD ⟨⟨hp, hbe, hbs, hsz⟩, hB⟩ hK
    have HP := Lib.hid hp
    clear hp
    have HG := Lib.hid (gap_any A c S W (h.below hB))
    have HC : Hid (∀ W', Below W.heap.size W W' → Calls Try.prog 63 #[.slice A 512 c] W' fun e w' => e = .returned (.int .i64 (S.length : Int)) ∧ ∃ q, w' = W'.drewN q) := Lib.hid fun W' hW' => count_any A c S W' ((h.below hB).below hW')
    clear h
    gi_wp2_with first | (refine ⟨trivial, ?_⟩; gi_at_call 65; refine (callsIn_wide.2 HG.out).mono ?_; rintro e w1 ⟨rfl, hb1⟩; have HB1 := Lib.hid hb1; obtain ⟨⟨s0, s1, s2⟩, g0, g1, g2⟩ := (hbs.below hb1).three; obtain ⟨e0, e1⟩ := (hbe.below hb1).one; clear hb1) | (refine ⟨trivial, ?_⟩; gi_at_call 63; refine (callsIn_wide.2 (HC.out _ HB1.out)).mono ?_; rintro e w2 ⟨rfl, q, rfl⟩)
    have q1 := (((((hbe.below HB1.out).drewN q).set 0 (.int .i64 (S.length : Int))).other (b := w.heap.size + 1) (by omega) 0 (.bool false)).other (b := w.heap.size + 1) (by omega) 1 (.int .i64 (512 - tot S : Nat))).other (b := w.heap.size + 1) (by omega) 2 (.int .i64 (512 - tot S : Nat))
    have q2 := (((((hbs.below HB1.out).drewN q).other (b := w.heap.size) (by omega) 0 (.int .i64 (S.length : Int))).set 0 (.bool false)).set 1 (.int .i64 (512 - tot S : Nat))).set 2 (.int .i64 (512 - tot S : Nat))
    have hB1 : Below w.heap.size w (w1.drewN q) := below_drewN (hB.trans (HB1.out.mono hB.size)) q
    have hB4 := ((((hB1.setCell (p := ⟨w.heap.size, 0, none⟩) (by simp) (.int .i64 (S.length : Int))).setCell (p := ⟨w.heap.size + 1, 0, none⟩) (by simp) (.bool false)).setCell (p := ⟨w.heap.size + 1, 1, none⟩) (by simp) (.int .i64 (512 - tot S : Nat))).setCell (p := ⟨w.heap.size + 1, 2, none⟩) (by simp) (.int .i64 (512 - tot S : Nat)))
    have hK1 : (w1.drewN q).heap[D]? = some (.deferred (some [])) := (HB1.out.block D (blk_lt hK)).trans hK
    have hK' := (((((KeepsOthers.setCell (w1.drewN q) ⟨w.heap.size, 0, none⟩ (.int .i64 (S.length : Int))).trans (KeepsOthers.setCell _ ⟨w.heap.size + 1, 0, none⟩ (.bool false))).trans (KeepsOthers.setCell _ ⟨w.heap.size + 1, 1, none⟩ (.int .i64 (512 - tot S : Nat)))).trans (KeepsOthers.setCell _ ⟨w.heap.size + 1, 2, none⟩ (.int .i64 (512 - tot S : Nat))))).same D _ hK1 rfl
    have hv : freeV S = .tuple #[.int .i64 (S.length : Int), .agg #[.bool false, .int .i64 (512 - tot S : Nat), .int .i64 (512 - tot S : Nat)]] := by
      have hf : freeN S = S.length := freeN_is (Nat.le_refl _) (fun j hj => HP.out ⟨j, hj⟩ (ups_in hj (Nat.le_refl _))) (fun h => absurd h (Nat.lt_irrefl _))
      unfold freeV
      rw [hf, to_all]
    exact fin_free rfl hD s4 hK' hB4 rfl rfl q1 q2 hv
  case stop =>
    rintro D c k W hD hk ⟨⟨rfl, ini, x, hx, h1, h2, hbe, hbs⟩, hB⟩ hK
    gi_wp2
    have hv : freeV S = .tuple #[.int .i64 (x.1 : Int), .agg #[.bool false, .int .i64 (to_ S (x.1 + 1) : Nat), .int .i64 (to_ S x.1 : Nat)]] := by
      obtain ⟨k', rfl⟩ : ∃ k', k = k' + 1 := by
        cases k with
        | zero => simp [ups] at hx
        | succ k' => exact ⟨k', rfl⟩
      rw [ups_next (by omega)] at hx
      obtain ⟨rfl, e5⟩ := List.append_inj' hx rfl
      have e6 : k' = x.1 := congrArg Subtype.val (List.cons.inj e5).1
      rw [← e6] at h2 ⊢
      have hf : freeN S = k' := freeN_is (by omega) (fun j hj => h1 ⟨j, by omega⟩ (ups_in hj (by omega))) (fun _ => h2)
      have h4 : to_ S (k' + 1) = to_ S k' := by
        have hs : S[k']? = some S[k'] := List.getElem?_eq_getElem (by omega)
        have h5 := full_of hs
        rw [h5] at h2
        have := to_next hs
        cases hc : S[k'] with
        | none => rw [hc] at this; exact this
        | some d => rw [hc] at h2; cases h2
      unfold freeV
      rw [hf, h4]
    exact fin_free rfl hD s4 hK hB rfl rfl hbe hbs hv
end Go.Proofs.Ythcilmlaoddckaa.Pg
/- A page's calls: New, Get, Put, Set, Drop. -/
namespace Go.Proofs.Ythcilmlaoddckaa.Pg
open Go.RowKit Go.Proofs.Ythcilmlaoddckaa.Mem Go.Proofs.Ythcilmlaoddckaa.Right
set_option linter.unusedVariables false

theorem full_split {S : List Sl} {k : Nat} (h : full S k = true) : ∃ S1 d S2, S = S1 ++ some d :: S2 ∧ S1.length = k ∧ S1 = S.take k := by
  obtain ⟨d, hd⟩ := full_dat h
  obtain ⟨S1, S2, e1, e2, e3⟩ := split_at hd
  exact ⟨S1, d, S2, e1, e2, e3⟩
/-- A call that answers bytes and an error: the error, or bytes of the call's own. -/
def Got (w : World) (x : Option (List UInt8)) (err : Int) (e : Ending) (w' : World) : Prop :=
  match x with
  | none => e = .returned (.tuple #[.slice none 0 0, .int .i64 err]) ∧ Below w.heap.size w w'
  | some l => ∃ v, e = .returned (.tuple #[v, .int .i64 0]) ∧ Made w.heap.size w v l w'
set_option maxHeartbeats 1000000 in
theorem get_none (A : Option Addr) (c : Nat) (S : List Sl) (z : Int) (w : World) (h : Good w A c S) (hf : ¬ (0 ≤ z ∧ full S z.toNat = true)) :
    Calls Try.prog 29 #[.slice A 512 c, .int .i64 z] w (Got w none 4) := by
  have HC := Lib.hid (check_got A c S w h)
  have HF : Hid (∀ W', Below w.heap.size w W' → Calls Try.prog 47 #[.slice A 512 c, .int .i64 z] W' fun e w' => e = .returned (.tuple #[.agg #[.bool false, .int .i64 0, .int .i64 0], .int .i64 4]) ∧ Below W'.heap.size W' w') := Lib.hid fun W' hW' => (find_any A c S z W' (h.pag.below hW')).mono fun e w' ⟨a, b⟩ => ⟨by rw [a]; unfold findV; rw [if_neg hf], b⟩
  clear h hf
  go_enter Try.func29, Try.ntmps29
  go_wp2_with first | (go_at_call 46; (with_reducible refine HC.out.mono ?_); rintro e w1 ⟨rfl, hb1⟩; have HB1 := Lib.hid hb1; clear hb1) | (go_at_call 47; (with_reducible refine (HF.out _ HB1.out).mono ?_); rintro e w2 ⟨rfl, hb2⟩; have HB2 := Lib.hid (on HB1.out hb2); clear hb2)
  go_ret2
  exact ⟨rfl, al HB2.out _⟩
set_option maxHeartbeats 1000000 in
theorem get_some (A : Option Addr) (c k : Nat) (S : List Sl) (d : List UInt8) (w : World) (h : Good w A c S) (hd : S[k]? = some (some d)) :
    Calls Try.prog 29 #[.slice A 512 c, .int .i64 k] w (Got w (some d) 0) := by
  obtain ⟨b, o, rfl, _⟩ := h.pag.some_
  have HC := Lib.hid (check_got (some ⟨b, o, none⟩) c S w h)
  have hfull : full S k = true := by rw [full_of hd]; rfl
  obtain ⟨F, hF⟩ : ∃ F, to_ S (k + 1) = F := ⟨_, rfl⟩
  obtain ⟨T, hT⟩ : ∃ T, to_ S k = T := ⟨_, rfl⟩
  have hln : F + d.length = T := by rw [← hF, ← hT]; exact h.2.fit.to_ln hd
  have hd5 : d.length ≤ 255 := h.2.fit.at_ hd
  have hT5 : T ≤ 512 := by rw [← hT]; exact to_le _ _
  have HF : Hid (∀ W', Below w.heap.size w W' → Calls Try.prog 47 #[.slice (some ⟨b, o, none⟩) 512 c, .int .i64 k] W' fun e w' => e = .returned (.tuple #[.agg #[.bool true, .int .i64 F, .int .i64 T], .int .i64 0]) ∧ Below W'.heap.size W' w') := Lib.hid fun W' hW' => (find_any _ c S k W' (h.pag.below hW')).mono fun e w' ⟨a, q⟩ => ⟨by rw [a]; unfold findV; rw [if_pos ⟨by omega, by rw [Int.toNat_natCast]; exact hfull⟩, Int.toNat_natCast, hF, hT], q⟩
  have hdat : ((pg S).drop F).take (T - F) = d := by
    obtain ⟨S1, S2, e1, e2, e3⟩ := split_at hd
    have hp := (pg_data S.length (S1 := S1) (S2 := S2) (s := some d) (by rw [← e1]; exact h.2.fit.room)).2
    rw [← e1] at hp
    have e4 : 512 - tot S1 - ln (some d) = F := by
      have : to_ S k = 512 - tot S1 := by unfold to_; rw [e3]
      show _ - d.length = F
      omega
    rw [e4] at hp
    rw [show T - F = ln (some d) by show _ = d.length; omega]
    exact hp
  have HCL : Hid (∀ W', Below w.heap.size w W' → ∀ o', (F < c → o' = o + F) → Calls Try.prog 48 #[.slice (some ⟨b, o', none⟩) (T - F) (c - F)] W' fun e w' => ∃ v, e = .returned v ∧ Made W'.heap.size W' v d w') := Lib.hid fun W' hW' o' ho' => by
    have hp := bs_part (h.below hW').1 (by omega : F ≤ T) hT5 ho'
    rw [hdat] at hp
    exact clone_any b o' (T - F) (c - F) d W' hp (by omega)
  obtain ⟨o', ho', hsl⟩ := slice_two b o 512 c F T F T rfl rfl (by omega) (by have := h.1.2; omega)
  have HO := Lib.hid ho'
  clear h hd hfull hF hT hln hdat ho'
  go_enter Try.func29, Try.ntmps29
  go_wp2_with first | (go_at_call 46; (with_reducible refine HC.out.mono ?_); rintro e w1 ⟨rfl, hb1⟩; have HB1 := Lib.hid hb1; clear hb1) | (go_at_call 47; (with_reducible refine (HF.out _ HB1.out).mono ?_); rintro e w2 ⟨rfl, hb2⟩; have HB2 := Lib.hid (al (on HB1.out hb2) (.cells #[.bool true, .int .i64 F, .int .i64 T] 97)); clear hb2) | (go_at_call 48; (with_reducible refine (HCL.out _ HB2.out o' HO.out).mono ?_); rintro e w3 ⟨v, rfl, hm3⟩; obtain ⟨A3, n3, c3, rfl⟩ := made_slice hm3; have HM3 := Lib.hid hm3; clear hm3)
  go_ret2
  exact ⟨_, rfl, HM3.out.base HB2.out HB2.out.size⟩
theorem pg_nil : pg [] = zs 512 := by decide +kernel
theorem new_any (w : World) : Calls Try.prog 76 #[] w fun e w' => ∃ v, e = .returned v ∧ Made w.heap.size w v (pg []) w' := by
  obtain ⟨Z, hZ, hmk⟩ : ∃ Z : Array Value, Z = (List.replicate 512 (Value.int .u8 0)).toArray ∧ ∀ wx : World, (Instr.makeSlice 32 (.int .i64 512) (.int .i64 512)).run Try.prog wx = .ok (.slice (some ⟨wx.heap.size, 0, none⟩) 512 512) (wx.alloc (.cells Z 5)) := ⟨_, rfl, fun wx => by kernel_rfl⟩
  have HZ := Lib.hid hZ
  clear hZ
  go_enter Try.func76, Try.ntmps76
  go_wp2
  go_ret
  refine ⟨_, rfl, ?_⟩
  refine blk_made (ex := []) (L := pg []) ?_ (al (Below.refl _ _) _) (Nat.le_refl _) Ok.nil.fit.len (Nat.le_refl _) (by decide) rfl
  show (w.alloc _).heap[w.heap.size]? = _
  rw [World.alloc_heap_new, HZ.out, List.append_nil, pg_nil]
  have e : bys (zs 512) = List.replicate 512 (Value.int .u8 0) := by
    unfold bys zs
    rw [List.map_replicate]; rfl
  rw [e]
/-- The answer of Put. -/
def PutR (S : List Sl) (d : List UInt8) (w : World) (e : Ending) (w' : World) : Prop :=
  if 255 < d.length then e = .returned (.tuple #[.slice none 0 0, .int .i64 0, .int .i64 3]) ∧ Below w.heap.size w w'
  else if roomN S < needN S d.length then e = .returned (.tuple #[.slice none 0 0, .int .i64 0, .int .i64 5]) ∧ Below w.heap.size w w'
  else ∃ v, e = .returned (.tuple #[v, .int .i64 (freeN S : Nat), .int .i64 0]) ∧ Made w.heap.size w v (pg (upd S (freeN S) d)) w'
set_option maxHeartbeats 1000000 in
theorem put_long (A A2 : Option Addr) (c m c2 : Nat) (S : List Sl) (w : World) (h : Good w A c S) (hm : 255 < m) :
    Calls Try.prog 67 #[.slice A 512 c, .slice A2 m c2] w fun e w' => e = .returned (.tuple #[.slice none 0 0, .int .i64 0, .int .i64 3]) ∧ Below w.heap.size w w' := by
  have HC := Lib.hid (checkData_any A A2 c m c2 S w h)
  rw [if_neg (by omega)] at HC
  clear h
  go_enter Try.func67, Try.ntmps67
  go_wp2_with (go_at_call 50; (with_reducible refine HC.out.mono ?_); rintro e w1 ⟨rfl, hb1⟩; have HB1 := Lib.hid hb1; clear hb1)
  go_ret3
  exact ⟨rfl, HB1.out⟩
/-- What the parts of Put answer, in every later world. -/
structure PutIn (A A2 : Option Addr) (c m c2 : Nat) (S : List Sl) (k T R : Nat) (w : World) : Prop where
  chk : Calls Try.prog 50 #[.slice A 512 c, .slice A2 m c2] w fun e w' => e = .returned (.int .i64 0) ∧ Below w.heap.size w w'
  free : ∀ W', Below w.heap.size w W' → Calls Try.prog 75 #[.slice A 512 c] W' fun e w' => e = .returned (.tuple #[.int .i64 (k : Int), .agg #[.bool false, .int .i64 (T : Int), .int .i64 (T : Int)]]) ∧ Below W'.heap.size W' w'
  count : ∀ W', Below w.heap.size w W' → Calls Try.prog 63 #[.slice A 512 c] W' fun e w' => e = .returned (.int .i64 (S.length : Int)) ∧ Below W'.heap.size W' w'
  room : ∀ W', Below w.heap.size w W' → Calls Try.prog 52 #[.slice A 512 c] W' fun e w' => e = .returned (.int .i64 (R : Int)) ∧ Below W'.heap.size W' w'
theorem putIn {A A2 : Option Addr} {c m c2 : Nat} {S : List Sl} {w : World} (h : Good w A c S) (hm : m ≤ 255) : PutIn A A2 c m c2 S (freeN S) (to_ S (freeN S)) (roomN S) w := by
  refine ⟨?_, fun W' hW' => ?_, fun W' hW' => ?_, fun W' hW' => ?_⟩
  · have := checkData_any A A2 c m c2 S w h
    rw [if_pos hm] at this
    exact this
  · exact free_any A c S W' (h.pag.below hW')
  · exact (count_any A c S W' (h.pag.below hW')).mono fun e w' ⟨a, q, b⟩ => ⟨a, by rw [b]; exact below_drewN (Below.refl _ _) q⟩
  · exact room_any A c S W' (h.pag.below hW')
set_option maxHeartbeats 2000000 in
theorem put_full (A A2 : Option Addr) (c m c2 k T R N : Nat) (S : List Sl) (w : World) (h : PutIn A A2 c m c2 S k T R w) (hm : m ≤ 255) (hN : N = if k = S.length then m + 2 else m) (hR : R < N) :
    Calls Try.prog 67 #[.slice A 512 c, .slice A2 m c2] w fun e w' => e = .returned (.tuple #[.slice none 0 0, .int .i64 0, .int .i64 5]) ∧ Below w.heap.size w w' := by
  have H := Lib.hid h
  clear h
  by_cases hk : k = S.length
  · rw [if_pos hk] at hN
    subst hN
    have t1 : ((k : Int) == (S.length : Int)) = true := beq_yes (by omega)
    have t2 : decide ((R : Int) < (m : Int) + 2) = true := decide_eq_true (by omega)
    have HK := Lib.hid hk
    clear hk
    go_enter Try.func67, Try.ntmps67
    go_wp2_with first | (go_at_call 50; (with_reducible refine H.out.chk.mono ?_); rintro e w1 ⟨rfl, hb1⟩; have HB1 := Lib.hid hb1; clear hb1) | (go_at_call 75; (with_reducible refine (H.out.free _ HB1.out).mono ?_); rintro e w2 ⟨rfl, hb2⟩; have HB2 := Lib.hid (al (on HB1.out hb2) (.cells #[.bool false, .int .i64 T, .int .i64 T] 97)); clear hb2) | (go_at_call 63; (with_reducible refine (H.out.count _ HB2.out).mono ?_); rintro e w3 ⟨rfl, hb3⟩; have HB3 := Lib.hid (on HB2.out hb3); clear hb3) | (go_at_call 52; (with_reducible refine (H.out.room _ HB3.out).mono ?_); rintro e w4 ⟨rfl, hb4⟩; have HB4 := Lib.hid (on HB3.out hb4); clear hb4)
    go_ret3
    exact ⟨rfl, HB4.out⟩
  · rw [if_neg hk] at hN
    subst hN
    have t1 : ((k : Int) == (S.length : Int)) = false := beq_no (by omega)
    have t2 : decide ((R : Int) < (N : Int)) = true := decide_eq_true (by omega)
    have HK := Lib.hid hk
    clear hk
    go_enter Try.func67, Try.ntmps67
    go_wp2_with first | (go_at_call 50; (with_reducible refine H.out.chk.mono ?_); rintro e w1 ⟨rfl, hb1⟩; have HB1 := Lib.hid hb1; clear hb1) | (go_at_call 75; (with_reducible refine (H.out.free _ HB1.out).mono ?_); rintro e w2 ⟨rfl, hb2⟩; have HB2 := Lib.hid (al (on HB1.out hb2) (.cells #[.bool false, .int .i64 T, .int .i64 T] 97)); clear hb2) | (go_at_call 63; (with_reducible refine (H.out.count _ HB2.out).mono ?_); rintro e w3 ⟨rfl, hb3⟩; have HB3 := Lib.hid (on HB2.out hb3); clear hb3) | (go_at_call 52; (with_reducible refine (H.out.room _ HB3.out).mono ?_); rintro e w4 ⟨rfl, hb4⟩; have HB4 := Lib.hid (on HB3.out hb4); clear hb4)
    go_ret3
    exact ⟨rfl, HB4.out⟩
end Go.Proofs.Ythcilmlaoddckaa.Pg
/- Put, where there is room; what Put answers. -/
namespace Go.Proofs.Ythcilmlaoddckaa.Pg
open Go.RowKit Go.Proofs.Ythcilmlaoddckaa.Mem Go.Proofs.Ythcilmlaoddckaa.Right
set_option linter.unusedVariables false

set_option maxHeartbeats 2000000 in
theorem put_in (A A2 : Option Addr) (c m c2 k T R N : Nat) (S : List Sl) (L : List UInt8) (w : World) (h : PutIn A A2 c m c2 S k T R w) (hm : m ≤ 255) (hN : N = if k = S.length then m + 2 else m) (hR : N ≤ R)
    (hl : ∀ W', Below w.heap.size w W' → Calls Try.prog 53 #[.slice A 512 c, .int .i64 (k : Int), .agg #[.bool false, .int .i64 (T : Int), .int .i64 (T : Int)], .slice A2 m c2] W' fun e w' => ∃ v, e = .returned v ∧ Made W'.heap.size W' v L w') :
    Calls Try.prog 67 #[.slice A 512 c, .slice A2 m c2] w fun e w' => ∃ v, e = .returned (.tuple #[v, .int .i64 (k : Int), .int .i64 0]) ∧ Made w.heap.size w v L w' := by
  have H := Lib.hid h
  have HL := Lib.hid hl
  clear h hl
  by_cases hk : k = S.length
  · rw [if_pos hk] at hN
    subst hN
    have t1 : ((k : Int) == (S.length : Int)) = true := beq_yes (by omega)
    have t2 : decide ((R : Int) < (m : Int) + 2) = false := decide_eq_false (by omega)
    have HK := Lib.hid hk
    clear hk
    go_enter Try.func67, Try.ntmps67
    go_wp2_with first | (go_at_call 50; (with_reducible refine H.out.chk.mono ?_); rintro e w1 ⟨rfl, hb1⟩; have HB1 := Lib.hid hb1; clear hb1) | (go_at_call 75; (with_reducible refine (H.out.free _ HB1.out).mono ?_); rintro e w2 ⟨rfl, hb2⟩; have HB2 := Lib.hid (al (on HB1.out hb2) (.cells #[.bool false, .int .i64 T, .int .i64 T] 97)); have HZ2 := Lib.hid (Cel.new w2 97 #[.bool false, .int .i64 T, .int .i64 T] rfl); clear hb2) | (go_at_call 63; (with_reducible refine (H.out.count _ HB2.out).mono ?_); rintro e w3 ⟨rfl, hb3⟩; have HB3 := Lib.hid (on HB2.out hb3); have HZ3 := Lib.hid (HZ2.out.below hb3); clear hb3) | (go_at_call 52; (with_reducible refine (H.out.room _ HB3.out).mono ?_); rintro e w4 ⟨rfl, hb4⟩; have HB4 := Lib.hid (on HB3.out hb4); have HZ4 := Lib.hid (HZ3.out.below hb4); obtain ⟨⟨z0, z1, z2⟩, _⟩ := HZ4.out.three; clear hb4) | (go_at_call 53; (with_reducible refine (HL.out _ HB4.out).mono ?_); rintro e w5 ⟨v, rfl, hm5⟩; have HM5 := Lib.hid hm5; obtain ⟨A5, n5, c5, rfl⟩ := made_slice hm5; clear hm5)
    go_ret3
    exact ⟨_, rfl, HM5.out.base HB4.out HB4.out.size⟩
  · rw [if_neg hk] at hN
    subst hN
    have t1 : ((k : Int) == (S.length : Int)) = false := beq_no (by omega)
    have t2 : decide ((R : Int) < (N : Int)) = false := decide_eq_false (by omega)
    have HK := Lib.hid hk
    clear hk
    go_enter Try.func67, Try.ntmps67
    go_wp2_with first | (go_at_call 50; (with_reducible refine H.out.chk.mono ?_); rintro e w1 ⟨rfl, hb1⟩; have HB1 := Lib.hid hb1; clear hb1) | (go_at_call 75; (with_reducible refine (H.out.free _ HB1.out).mono ?_); rintro e w2 ⟨rfl, hb2⟩; have HB2 := Lib.hid (al (on HB1.out hb2) (.cells #[.bool false, .int .i64 T, .int .i64 T] 97)); have HZ2 := Lib.hid (Cel.new w2 97 #[.bool false, .int .i64 T, .int .i64 T] rfl); clear hb2) | (go_at_call 63; (with_reducible refine (H.out.count _ HB2.out).mono ?_); rintro e w3 ⟨rfl, hb3⟩; have HB3 := Lib.hid (on HB2.out hb3); have HZ3 := Lib.hid (HZ2.out.below hb3); clear hb3) | (go_at_call 52; (with_reducible refine (H.out.room _ HB3.out).mono ?_); rintro e w4 ⟨rfl, hb4⟩; have HB4 := Lib.hid (on HB3.out hb4); have HZ4 := Lib.hid (HZ3.out.below hb4); obtain ⟨⟨z0, z1, z2⟩, _⟩ := HZ4.out.three; clear hb4) | (go_at_call 53; (with_reducible refine (HL.out _ HB4.out).mono ?_); rintro e w5 ⟨v, rfl, hm5⟩; have HM5 := Lib.hid hm5; obtain ⟨A5, n5, c5, rfl⟩ := made_slice hm5; clear hm5)
    go_ret3
    exact ⟨_, rfl, HM5.out.base HB4.out HB4.out.size⟩
/-- lay, at a slot that is empty, or behind the last one. -/
theorem lay_free (A A2 : Option Addr) (c m c2 : Nat) (S : List Sl) (d : List UInt8) (w : World) (h : Good w A c S) (hd : Bs w A2 m c2 d) (h5 : d.length ≤ 255) (hr : needN S d.length ≤ roomN S) (W' : World) (hW' : Below w.heap.size w W') :
    Calls Try.prog 53 #[.slice A 512 c, .int .i64 (freeN S : Nat), .agg #[.bool false, .int .i64 (to_ S (freeN S) : Nat), .int .i64 (to_ S (freeN S) : Nat)], .slice A2 m c2] W' fun e w' => ∃ v, e = .returned v ∧ Made W'.heap.size W' v (pg (upd S (freeN S) d)) w' := by
  obtain ⟨b, o, rfl, _⟩ := h.pag.some_
  have hfit := h.2.fit.room
  have hle := freeN_le S
  have ht0 : ln (none : Sl) = 0 := rfl
  by_cases hk : freeN S = S.length
  · unfold needN roomN at hr
    rw [if_pos hk] at hr
    have hl := lay_any b o c m c2 A2 S S [] none d false (to_ S (freeN S)) W' (h.pag.below hW') (hd.below hW') (by show pgn S.length S = _; rw [pgn_more _ _ (by omega)]) (by show _ = _ + ln none + 0; omega) (by omega) (Nat.le_refl _) (by rw [hk, to_all])
      (by show 2 + 2 * (S.length + 1 + 0) + (tot S + 0 + 0) ≤ 512; omega) (by show 2 + 2 * (S.length + 1 + 0) + (tot S + d.length + 0) ≤ 512; omega)
    rw [ht0, Nat.sub_zero] at hl
    have e1 : upd S (freeN S) d = S ++ [some d] := by unfold upd; rw [if_neg (by omega)]
    have e2 : pgn (max S.length (S.length + 1)) (S ++ [some d]) = pg (S ++ [some d]) := by
      unfold pg
      rw [List.length_append]; congr 1
      show max S.length (S.length + 1) = S.length + 1
      omega
    rw [e1, hk, ← e2]
    rw [hk] at hl
    exact hl
  · have hlt : freeN S < S.length := by omega
    have hs := freeN_none hlt
    unfold needN roomN at hr
    rw [if_neg hk] at hr
    obtain ⟨S1, S2, e1, e2, e3⟩ := split_at hs
    have htk : to_ S (freeN S) = 512 - tot S1 := by unfold to_; rw [e3]
    have htm : tot S = tot S1 + ln none + tot S2 := by rw [e1, tot_mid]
    have hlen : S.length = S1.length + 1 + S2.length := by rw [e1]; simp; omega
    have hl := lay_any b o c m c2 A2 S S1 S2 none d false (to_ S (freeN S)) W' (h.pag.below hW') (hd.below hW') (by show pgn S.length S = _; rw [← e1]) htm (by omega) (by omega) htk (by omega) (by omega)
    rw [ht0, Nat.sub_zero, e2] at hl
    have e4 : upd S (freeN S) d = S1 ++ some d :: S2 := by
      unfold upd
      rw [if_pos hlt]
      conv => lhs; rw [e1]
      rw [set_mid S1 none (some d) S2 (by rw [e2, ← e1])]
    have e5 : pgn (max S.length (freeN S + 1)) (S1 ++ some d :: S2) = pg (S1 ++ some d :: S2) := by
      unfold pg
      congr 1
      rw [List.length_append, List.length_cons]
      omega
    rw [e4, ← e5]
    exact hl
theorem put_any (A A2 : Option Addr) (c m c2 : Nat) (S : List Sl) (d : List UInt8) (w : World) (h : Good w A c S) (hd : Bs w A2 m c2 d) :
    Calls Try.prog 67 #[.slice A 512 c, .slice A2 m c2] w (PutR S d w) := by
  have hm : d.length = m := hd.2.1
  unfold PutR
  by_cases h5 : 255 < d.length
  · simp only [if_pos h5]
    exact put_long A A2 c m c2 S w h (by omega)
  · simp only [if_neg h5]
    by_cases hr : roomN S < needN S d.length
    · simp only [if_pos hr]
      exact put_full A A2 c m c2 _ _ _ (needN S d.length) S w (putIn h (by omega)) (by omega) (by rw [hm]; rfl) hr
    · simp only [if_neg hr]
      exact put_in A A2 c m c2 _ _ _ (needN S d.length) S _ w (putIn h (by omega)) (by omega) (by rw [hm]; rfl) (by omega) (fun W' hW' => lay_free A A2 c m c2 S d w h hd (by omega) (by omega) W' hW')
/-- What Put leaves is a page again. -/
theorem upd_ok {S : List Sl} {d : List UInt8} (h : Ok S) (h5 : ¬ 255 < d.length) (hr : ¬ roomN S < needN S d.length) : Ok (upd S (freeN S) d) := by
  have hfit := h.fit.room
  have hle := freeN_le S
  unfold upd needN roomN at *
  by_cases hk : freeN S = S.length
  · rw [if_pos hk] at hr
    rw [if_neg (by omega)]
    exact h.more (by omega) (by omega)
  · have hlt : freeN S < S.length := by omega
    rw [if_neg hk] at hr
    rw [if_pos hlt]
    obtain ⟨S1, S2, e1, e2, e3⟩ := split_at (freeN_none hlt)
    have htm : tot S = tot S1 + ln none + tot S2 := by rw [e1, tot_mid]
    have hlen : S.length = S1.length + 1 + S2.length := by rw [e1]; simp; omega
    have e4 : S.set (freeN S) (some d) = S1 ++ some d :: S2 := by
      conv => lhs; rw [e1]
      rw [set_mid S1 none (some d) S2 (by rw [e2, ← e1])]
    rw [e4]
    have h' := h
    rw [e1] at h'
    exact h'.set (by omega) (by have : ln (none : Sl) = 0 := rfl; omega)
end Go.Proofs.Ythcilmlaoddckaa.Pg
