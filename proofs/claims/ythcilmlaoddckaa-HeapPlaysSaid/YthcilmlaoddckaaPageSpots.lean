/- The iterator over a page's slots: which rounds come; that it reads nothing but the page. -/
import Derived.Test.YthcilmlaoddckaaPageSmall
import Derived.RangeFuncNested
import Derived.RangeFuncBox
import Derived.RangeFuncBound
import Derived.RangeFuncCalls
import Derived.RangeFuncLeaves
import Derived.Shelf.Abstract
import Derived.Shelf.RegionOpen
import Derived.OwnWalkIn
import Derived.TacticsInMore
import Derived.LoopNIn
import Derived.LoopIn
namespace Go.Proofs.Ythcilmlaoddckaa.Pg
open Go.RowKit Go.Proofs.Ythcilmlaoddckaa.Mem Go.Proofs.Ythcilmlaoddckaa.Right
set_option linter.unusedVariables false
attribute [local go_sem] Oper.semAt_some

/-- A slice reads as the page of these slots. -/
def Pag (w : World) (A : Option Addr) (c : Nat) (S : List Sl) : Prop := Bs w A 512 c (pg S) ∧ Fit S
theorem Pag.below {w w' : World} {A : Option Addr} {c : Nat} {S : List Sl} (h : Pag w A c S) (hb : Below w.heap.size w w') : Pag w' A c S := ⟨h.1.below hb, h.2⟩
theorem bs_to {w w' : World} {B : Nat} {A : Option Addr} {n c : Nat} {l : List UInt8} (h : Row w B A (bys l)) (hb : Below B w w') (hB : B ≤ w'.heap.size) (h2 : l.length = n ∧ n ≤ c ∧ c ≤ 9223372036854775807) : Bs w' A n c l :=
  ⟨(h.below hb (Nat.le_refl _)).more hB, h2⟩
theorem count_any (A : Option Addr) (c : Nat) (S : List Sl) (w : World) (h : Pag w A c S) :
    Calls Try.prog 63 #[.slice A 512 c] w fun e w' => e = .returned (.int .i64 (S.length : Int)) ∧ ∃ q, w' = w.drewN q := by
  have HV := Lib.hid (show (hi S.length).toNat * 256 + (lo S.length).toNat = S.length by
    have := h.2.room
    exact hi_lo _ (by omega))
  obtain ⟨c1, c2⟩ := pgn_count S.length S
  have HN := Lib.hid (number_any A 512 c 0 0 rfl (pg S) _ _ c1 c2 w h.1)
  clear h c1 c2
  go_enter Try.func63, Try.ntmps63
  go_wp2_with (go_at_call 72; (with_reducible refine HN.out.mono ?_); rintro e w1 ⟨rfl, q, rfl⟩)
  go_ret
  exact ⟨ri (by have := HV.out; omega), _, rfl⟩
theorem blk_set {w : World} {g : Nat} {cs : Array Value} {t : TypeId} (h : w.heap[g]? = some (.cells cs t (0, 0))) (i : Nat) (v : Value) : (w.setCell ⟨g, i, none⟩ v).heap[g]? = some (.cells (cs.setIfInBounds i v) t (0, 0)) := by
  show (w.heap.modify g _)[g]? = _
  rw [Array.getElem?_modify, h]
  simp
/-- The slots' numbers. -/
abbrev Ix (n : Nat) := { k : Nat // k < n }
def ups (n : Nat) : Nat → List (Ix n)
  | 0 => []
  | k + 1 => ups n k ++ (if h : k < n then [⟨k, h⟩] else [])
theorem ups_next {n k : Nat} (h : k < n) : ups n (k + 1) = ups n k ++ [⟨k, h⟩] := by
  show ups n k ++ _ = _
  rw [dif_pos h]
theorem ups_len {n : Nat} : ∀ {k : Nat}, k ≤ n → (ups n k).length = k
  | 0, _ => rfl
  | k + 1, h => by rw [ups_next (by omega), List.length_append, ups_len (by omega)]; rfl
/-- What a round is handed. -/
def spv (S : List Sl) (k : Nat) : Value := .agg #[.bool (full S k), .int .i64 (to_ S (k + 1) : Nat), .int .i64 (to_ S k : Nat)]
/-- What a round keeps: what lay below n₀, and, from block Bn on, spots and the page's own variable. -/
def Kp (n₀ Bn : Nat) (W W' : World) : Prop := Below n₀ W W' ∧ ∀ (j : Nat) (cs : Array Value) (t : TypeId) (fr : Nat × Nat), Bn ≤ j → (t = 32 ∨ t = 97) → W.heap[j]? = some (.cells cs t fr) → W'.heap[j]? = some (.cells cs t fr)
theorem kp_t {n₀ Bn : Nat} {A B C : World} (h : Kp n₀ Bn A B) (k : Kp n₀ Bn B C) : Kp n₀ Bn A C := ⟨h.1.trans k.1, fun j cs t fr hj ht hc => k.2 j cs t fr hj ht (h.2 j cs t fr hj ht hc)⟩
theorem kp_b {n₀ Bn : Nat} {w : World} (hn : n₀ ≤ w.heap.size) (W : World) (l : Nat) (o o' : Obj) (hl : w.heap.size ≤ l) (h : W.heap[l]? = some o) (hc : o.isCells = false) (hw : o.isWalk = false) : Kp n₀ Bn W (W.putObj l o') :=
  ⟨belowK_b hn W l o o' hl h hc hw, fun j cs t fr _ _ hu => by
    refine (World.putObj_heap_other (fun e => ?_)).trans hu
    subst e
    rw [h] at hu; cases hu; cases hc⟩
set_option maxRecDepth 100000 in
set_option maxHeartbeats 1000000 in
theorem spots_in (n : Nat) (hn : 1 ≤ n) (l Bn n₀ : Nat) (A : Option Addr) (c : Nat) (S : List Sl) (hS : Fit S) (J Jx : List (Ix S.length) → World → Prop) (hJ0 : ∃ m, AbidesFrom m J)
    (hY : ∀ pre x W, J pre W → pre.length < S.length → YieldAt Fence.wide (n - 1) Try.prog l #[.int .i64 (x.1 : Int), spv S x.1] W fun e W' =>
      (e = .returned (.bool true) ∧ J (pre ++ [x]) W' ∧ Kp n₀ Bn W W') ∨ (e = .returned (.bool false) ∧ Jx (pre ++ [x]) W'))
    (W : World) (hBn : Boxed W Bn 32 (.slice A 512 c)) (hn₀ : n₀ ≤ W.heap.size) (hrow : Row W n₀ A (bys (pg S))) (hc : 512 ≤ c ∧ c ≤ 9223372036854775807) (h0 : J [] W) :
    CallsIn Fence.wide n Try.prog 71 #[.func (.yield l) #[] #[], .pointer (some ⟨Bn, 0, none⟩)] W fun e W' => (∃ v, e = .returned v) ∧
      ((∃ ys, ys = ups S.length S.length ∧ J ys W') ∨ (∃ pre, (∃ k, k ≤ S.length ∧ pre = ups S.length k) ∧ Jx pre W')) := by
  have hlen := hS.room
  have hpag : Pag W A c S := ⟨⟨hrow.more hn₀, hS.len, hc⟩, hS⟩
  have HC := Lib.hid (count_any A c S W hpag)
  have hcB := hBn.cell
  refine callsIn_of_wp Try.func71 rfl trivial ?_ rfl
  simp only [Try.ntmps71, List.size_toArray, List.length_cons, List.length_nil, Nat.reduceAdd, Nat.reduceSub, Array.replicate_succ, Array.replicate_zero, List.push_toArray, List.append_toArray, List.nil_append, List.cons_append]
  gi_wp2_with (refine ⟨trivial, ?_⟩; gi_at_call 63; refine (callsIn_wide.2 HC.out).mono ?_; rintro e w1 ⟨rfl, q, rfl⟩)
  have jb : ∀ {pre : List (Ix S.length)} {w1 w2 : World}, J pre w1 → Below w1.heap.size w1 w2 → J pre w2 := fun h1 h2 => by
    obtain ⟨m, hJ⟩ := hJ0
    exact hJ _ _ _ none h1 (grown_below h2) (by simp)
  have HP := Lib.hid hpag
  have HK := Lib.hid hS
  have HR := Lib.hid hrow
  clear hpag hlen hrow
  gi_loopw [3, 9] (fun p i wr => ∃ k : Nat, k ≤ S.length ∧ p = .int .i64 (to_ S k : Nat) ∧ i = .int .i64 k ∧ Hid (J (ups S.length k) wr) ∧ Hid (Below n₀ W wr) ∧ Hid (Boxed wr Bn 32 (.slice A 512 c)))
    (fun _ i _ => S.length - (intOf i).toNat)
  case atStart => exact ⟨0, Nat.zero_le _, by rw [to_zero]; rfl, rfl, Lib.hid (jb h0 (below_drewN (Below.refl _ _) _)), Lib.hid (below_drewN (Below.refl _ _) _), Lib.hid hBn⟩
  case round =>
    obtain ⟨k, hk, rfl, rfl, HJ, HB, HX⟩ := hrel
    by_cases hlt : k < S.length
    · have hs : S[k]? = some S[k] := List.getElem?_eq_getElem hlt
      have hY' := fun W' => hY (ups S.length k) ⟨k, hlt⟩ W'
      generalize S[k] = s at hs
      obtain ⟨m1, m2⟩ := pgn_mark (n := S.length) hs
      have HN : Hid (∀ w', Below wr.heap.size wr w' → Calls Try.prog 72 #[.slice A 512 c, .int .i64 ((2 * (k + 1) : Nat) : Int)] w' fun e w'' => e = .returned (.int .i64 (mk s : Int)) ∧ ∃ q, w'' = w'.drewN q) := Lib.hid fun w' hw' => by
        refine (number_any A 512 c _ _ rfl (pg S) _ _ m1 m2 w' (bs_to HR.out (HB.out.trans (hw'.mono (Nat.le_trans hn₀ HB.out.size))) (Nat.le_trans hn₀ (Nat.le_trans HB.out.size hw'.size)) ⟨HK.out.len, hc⟩)).mono ?_
        rintro e w'' ⟨rfl, hq⟩
        refine ⟨ri ?_, hq⟩
        have := hi_lo (mk s) (mk_lt (HK.out.at_ hs))
        omega
      clear m1 m2
      have hcX : ∀ o : Obj, (wr.alloc o).cell? ⟨Bn, 0, none⟩ = some (.slice A 512 c) := fun o => (HX.out.alloc o).cell
      have htl := HK.out.to_ln hs
      have ht512 := to_le S k
      have hk9 : k ≤ 1000 := by have := HK.out.room; omega
      have hlt' : (k : Int) < (S.length : Int) := by omega
      have hul : (ups S.length k).length < S.length := by rw [ups_len hk]; exact hlt
      have hn₀0 : n₀ ≤ W.heap.size := hn₀
      have hfull := full_of hs
      cases s with
      | none =>
        have HN1 : Hid (∀ w', Below wr.heap.size wr w' → Calls Try.prog 72 #[.slice A 512 c, .int .i64 ((2 * (k + 1) : Nat) : Int)] w' fun e w'' => e = .returned (.int .i64 0) ∧ ∃ q, w'' = w'.drewN q) := HN
        have hto : to_ S (k + 1) = to_ S k := htl
        have e1 : spv S k = .agg #[.bool false, .int .i64 (to_ S k : Nat), .int .i64 (to_ S k : Nat)] := by
          unfold spv; rw [hfull, hto]; rfl
        clear HN htl hfull
        have HT := Lib.hid hto
        clear hto
        gi_wp2
        refine wpIn_wide.2 ?_
        go_quiet (first | (go_at_call 70; exact Calls.quiet_of_same (markAt_any k hk9 _)) | (go_at_call 72; exact Calls.quiet_of (HN1.out _ (below_drewN (al (Below.refl _ _) _) _))))
        gi_wp2
        obtain ⟨W2, hW2⟩ : ∃ W2, (wr.alloc (.cells #[.bool false, .int .i64 (to_ S k : Nat), .int .i64 (to_ S k : Nat)] 97)).drewN nq = W2 := ⟨_, rfl⟩
        have HB2 : Hid (Below wr.heap.size wr W2) := Lib.hid (by rw [← hW2]; exact below_drewN (al (Below.refl _ _) _) _)
        have HX2 : Hid (W2.heap[wr.heap.size]? = some (.cells #[.bool false, .int .i64 (to_ S k : Nat), .int .i64 (to_ S k : Nat)] 97 (0, 0))) := Lib.hid (by
          rw [← hW2]; exact World.alloc_heap_new _ _)
        have HXB : Hid (W2.heap[Bn]? = some (.cells #[.slice A 512 c] 32 (0, 0))) := Lib.hid ((HB2.out.block Bn HX.out.lt).trans HX.out)
        rw [hW2]
        clear hW2
        obtain ⟨fn, tmps, assign, body, hy, hR⟩ := hY' W2 (jb HJ.out HB2.out) hul
        simp only [e1] at hy
        rw [hy]
        gi_wp2
        refine hR.mono ?_
        rintro e W3 (⟨rfl, hJ3, hk3⟩ | ⟨rfl, hJx3⟩)
        · have hx3 := hk3.2 _ _ _ _ (Nat.le_of_lt HX.out.lt) (.inr rfl) HX2.out
          have hc3 : W3.cell? ⟨wr.heap.size, 1, none⟩ = some (.int .i64 (to_ S k : Nat)) := by rw [cell_of_row _ _ _ _ _ _ hx3]; rfl
          clear hx3
          gi_wp2
          go_roundw
          case rel => exact ⟨k + 1, by omega, by rw [HT.out], by go_num, Lib.hid (by rw [ups_next hlt]; exact hJ3), Lib.hid (HB.out.trans ((HB2.out.mono (Nat.le_trans hn₀0 HB.out.size)).trans hk3.1)), Lib.hid (hk3.2 _ _ _ _ (Nat.le_refl _) (.inl rfl) HXB.out)⟩
          case measure => simp [intOf]; omega
        · gi_wp2
          refine bodyPost_ret (results_none rfl _ _ _) rfl ?_
          exact ⟨⟨_, rfl⟩, .inr ⟨_, ⟨k + 1, by omega, (ups_next hlt).symm⟩, hJx3⟩⟩
      | some d =>
        have hd : d.length ≤ 255 := HK.out.at_ hs
        have hto : to_ S (k + 1) + d.length = to_ S k := htl
        have e0 : ((to_ S k : Nat) : Int) - (d.length : Int) = ((to_ S (k + 1) : Nat) : Int) := by omega
        have HN1 : Hid (∀ w', Below wr.heap.size wr w' → Calls Try.prog 72 #[.slice A 512 c, .int .i64 ((2 * (k + 1) : Nat) : Int)] w' fun e w'' => e = .returned (.int .i64 ((d.length : Int) + 1)) ∧ ∃ q, w'' = w'.drewN q) := Lib.hid fun w' hw' => (HN.out w' hw').mono fun e w'' ⟨a, b⟩ => ⟨a.trans (ri (by show ((d.length + 1 : Nat) : Int) = _; omega)), b⟩
        have e1 : spv S k = .agg #[.bool true, .int .i64 (((to_ S k : Nat) : Int) - (d.length : Int)), .int .i64 (to_ S k : Nat)] := by
          unfold spv; rw [hfull, e0]; rfl
        have t1 : ((d.length : Int) + 1 != 0) = true := bne_yes (by omega)
        have t2 : ((d.length : Int) + 1 == 0) = false := beq_no (by omega)
        clear HN htl hfull
        have HT := Lib.hid e0
        clear e0
        gi_wp2
        refine wpIn_wide.2 ?_
        go_quiet (first | (go_at_call 70; exact Calls.quiet_of_same (markAt_any k hk9 _)) | (go_at_call 72; exact Calls.quiet_of (HN1.out _ (below_drewN (al (Below.refl _ _) _) _))))
        gi_wp2
        obtain ⟨W2, hW2⟩ : ∃ W2, (((wr.alloc (.cells #[.bool false, .int .i64 (to_ S k : Nat), .int .i64 (to_ S k : Nat)] 97)).drewN nq).setCell ⟨wr.heap.size, 0, none⟩ (.bool true)).setCell ⟨wr.heap.size, 1, none⟩ (.int .i64 (((to_ S k : Nat) : Int) - (d.length : Int))) = W2 := ⟨_, rfl⟩
        have HB2 : Hid (Below wr.heap.size wr W2) := Lib.hid (by rw [← hW2]; exact ((below_drewN (al (Below.refl _ _) _) _).setCell (p := ⟨wr.heap.size, 0, none⟩) (Nat.le_refl _) _).setCell (p := ⟨wr.heap.size, 1, none⟩) (Nat.le_refl _) _)
        have HX2 : Hid (W2.heap[wr.heap.size]? = some (.cells #[.bool true, .int .i64 (((to_ S k : Nat) : Int) - (d.length : Int)), .int .i64 (to_ S k : Nat)] 97 (0, 0))) := Lib.hid (by
          rw [← hW2]
          have h0 : ((wr.alloc (.cells #[.bool false, .int .i64 (to_ S k : Nat), .int .i64 (to_ S k : Nat)] 97)).drewN nq).heap[wr.heap.size]? = some (.cells #[.bool false, .int .i64 (to_ S k : Nat), .int .i64 (to_ S k : Nat)] 97 (0, 0)) := World.alloc_heap_new _ _
          exact blk_set (blk_set h0 0 _) 1 _)
        have HXB : Hid (W2.heap[Bn]? = some (.cells #[.slice A 512 c] 32 (0, 0))) := Lib.hid ((HB2.out.block Bn HX.out.lt).trans HX.out)
        rw [hW2]
        clear hW2
        obtain ⟨fn, tmps, assign, body, hy, hR⟩ := hY' W2 (jb HJ.out HB2.out) hul
        simp only [e1] at hy
        rw [hy]
        gi_wp2
        refine hR.mono ?_
        rintro e W3 (⟨rfl, hJ3, hk3⟩ | ⟨rfl, hJx3⟩)
        · have hx3 := hk3.2 _ _ _ _ (Nat.le_of_lt HX.out.lt) (.inr rfl) HX2.out
          have hc3 : W3.cell? ⟨wr.heap.size, 1, none⟩ = some (.int .i64 (((to_ S k : Nat) : Int) - (d.length : Int))) := by rw [cell_of_row _ _ _ _ _ _ hx3]; rfl
          clear hx3
          gi_wp2
          go_roundw
          case rel => exact ⟨k + 1, by omega, by rw [HT.out], by go_num, Lib.hid (by rw [ups_next hlt]; exact hJ3), Lib.hid (HB.out.trans ((HB2.out.mono (Nat.le_trans hn₀0 HB.out.size)).trans hk3.1)), Lib.hid (hk3.2 _ _ _ _ (Nat.le_refl _) (.inl rfl) HXB.out)⟩
          case measure => simp [intOf]; omega
        · gi_wp2
          refine bodyPost_ret (results_none rfl _ _ _) rfl ?_
          exact ⟨⟨_, rfl⟩, .inr ⟨_, ⟨k + 1, by omega, (ups_next hlt).symm⟩, hJx3⟩⟩
    · obtain rfl : k = S.length := by omega
      gi_wp2
      go_end0
      exact ⟨⟨_, rfl⟩, .inl ⟨_, rfl, HJ.out⟩⟩
end Go.Proofs.Ythcilmlaoddckaa.Pg
