/- How many slots a page has up to the last one that is not empty; where its gap is; its room. -/
import Derived.Test.YthcilmlaoddckaaPageLaw
import Derived.Test.YthcilmlaoddckaaPagePutMath
namespace Go.Proofs.Ythcilmlaoddckaa.Pg
open Go.RowKit Go.Proofs.Ythcilmlaoddckaa.Mem Go.Proofs.Ythcilmlaoddckaa.Right
set_option linter.unusedVariables false
attribute [local go_sem] Oper.semAt_some

def usedf (S : List Sl) (pre : List (Ix S.length)) : Nat := pre.foldl (fun a x => if full S x.1 then x.1 + 1 else a) 0
theorem usedf_snoc (S : List Sl) (pre : List (Ix S.length)) (x : Ix S.length) : usedf S (pre ++ [x]) = if full S x.1 then x.1 + 1 else usedf S pre := by simp [usedf]
theorem usedf_ups (S : List Sl) : ∀ k, k ≤ S.length → usedf S (ups S.length k) = lst (S.take k)
  | 0, _ => by simp [ups, usedf, lst]
  | k + 1, h => by
    have hs : S[k]? = some S[k] := List.getElem?_eq_getElem (by omega)
    rw [ups_next (by omega), usedf_snoc, usedf_ups S k (by omega), lst_next hs, full_of hs]
/-- Behind the loop: nothing that lay has turned. -/
theorem fin_below {w W : World} {D : Nat} {o' : Obj} (hB : Below w.heap.size w W) (hD : w.heap.size ≤ D) {o : Obj} (hK : W.heap[D]? = some o) (hc : o.isCells = false) (hw : o.isWalk = false) : Below w.heap.size w (W.putObj D o') :=
  hB.trans (belowK_b (w := w) (Nat.le_refl _) W D _ _ hD hK hc hw)
set_option maxRecDepth 100000 in
set_option maxHeartbeats 1000000 in
theorem used_any (A : Option Addr) (c : Nat) (S : List Sl) (w : World) (h : Pag w A c S) :
    Calls Try.prog 64 #[.slice A 512 c] w fun e w' => e = .returned (.int .i64 (lst S : Int)) ∧ Below w.heap.size w w' := by
  refine (callsIn_wide (n := 5)).1 ?_
  refine callsIn_of_wp_marks Try.func64 rfl trivial ?_ rfl
  simp only [Try.ntmps64, List.size_toArray, List.length_cons, List.length_nil, Nat.reduceAdd, Nat.reduceSub, Array.replicate_succ, Array.replicate_zero, List.push_toArray, List.append_toArray, List.nil_append, List.cons_append]
  gi_wp2_with (refine ⟨trivial, ?_⟩; gi_at_call 62; refine (callsIn_wide.2 (spots_any _ _ _ _)).mono ?_; rintro e w' ⟨rfl, rfl⟩)
  have hS := h.2
  have hr := hS.room
  have bN := Boxed.new w 3 (.int .i64 0)
  have bP := Boxed.new (w.alloc (.cells #[.int .i64 0] 3)) 32 (.slice A 512 c)
  rw [World.size_alloc] at bP
  have hB0 : Below w.heap.size w ((w.alloc (.cells #[.int .i64 0] 3)).alloc (.cells #[.slice A 512 c] 32)) := al (al (Below.refl _ _) _) _
  refine wp_spots (by omega) (w.heap.size + 1) w.heap.size A c S hS bP (by simp; omega) (h.1.1.below hB0 (Nat.le_refl _)) h.1.2.2 rfl rfl
    (fun pre W => Boxed W w.heap.size 3 (.int .i64 (usedf S pre : Nat)) ∧ Below w.heap.size w W) (fun _ _ _ => False)
    (OwnFrom.and (Own.from (boxed_own _ _ (fun pre => .int .i64 (usedf S pre : Nat))) _) (ownFrom_below (Nat.le_refl _) (by simp; omega)))
    (fun _ _ _ _ _ hs _ _ => hs) ⟨bN.alloc _, hB0⟩ w.heap.size (Nat.le_refl _) (fun pre W hi => hi.2.size)
    (fun x Bx => { tmps := #[.slice A 512 c, undef, .int .i64 0, .pointer (some ⟨w.heap.size, 0, none⟩), .int .i64 (x.1 : Int), .pointer (some ⟨Bx, 0, none⟩), .slice A 512 c, .func (.func 71) #[] #[.pointer (some ⟨w.heap.size + 1, 0, none⟩)], .int .i64 (x.1 : Int), .agg #[.bool (full S x.1), .int .i64 (to_ S (x.1 + 1) : Nat), .int .i64 (to_ S x.1 : Nat)], undef, undef, undef, undef, undef], defers := [] }) ?assign ?body ?done ?stop
  case assign =>
    intro l x W K hK
    simp only [spv]
    gi_wp2
    exact hK
  case body =>
    rintro l pre x Bx W hBx ⟨hb, hB⟩ hs _
    have hx := x.2
    have hx1 : (x.1 : Int) ≤ 255 := by omega
    obtain ⟨c0, c1, c2⟩ := hs.cells
    have hc := hb.cell
    have hf := hb.frozen
    cases hfu : full S x.1 with
    | true =>
      rw [hfu] at c0
      have HU := Lib.hid (show usedf S (pre ++ [x]) = x.1 + 1 by rw [usedf_snoc, if_pos hfu])
      clear hfu
      gi_wp2
      refine ⟨(KeepsOthers.setCell _ _ _).from _, kp_set _ _ _ (Nat.le_refl _) (by omega), ?_, hB.setCell (p := ⟨w.heap.size, 0, none⟩) (Nat.le_refl _) _⟩
      show Boxed _ _ _ (.int .i64 (usedf S (pre ++ [x]) : Nat))
      rw [HU.out]
      exact hb.set _
    | false =>
      rw [hfu] at c0
      have HU := Lib.hid (show usedf S (pre ++ [x]) = usedf S pre by rw [usedf_snoc, if_neg (by rw [hfu]; decide)])
      clear hfu
      gi_wp2
      refine ⟨KeepsFrom.refl _ _, kp_refl _ _ _, ?_, hB⟩
      show Boxed _ _ _ (.int .i64 (usedf S (pre ++ [x]) : Nat))
      rw [HU.out]
      exact hb
  case done =>
    rintro D W hD ⟨hb, hB⟩ hK
    have hc := hb.cell
    gi_wp2
    refine ⟨by simp, .inl ⟨_, _, rfl, run_takeDeferred hK, ?_⟩⟩
    refine ⟨_, results_tmp rfl _ _ _, ?_, fin_below hB (by simp at hD; omega) hK rfl rfl⟩
    exact ri (by rw [usedf_ups S _ (Nat.le_refl _), List.take_length])
  case stop =>
    rintro D c k W _ _ h _
    exact h.elim

def gapf (S : List Sl) (pre : List (Ix S.length)) : Nat := pre.foldl (fun _ x => to_ S (x.1 + 1)) 512
theorem gapf_snoc (S : List Sl) (pre : List (Ix S.length)) (x : Ix S.length) : gapf S (pre ++ [x]) = to_ S (x.1 + 1) := by simp [gapf]
theorem gapf_ups (S : List Sl) : ∀ k, k ≤ S.length → gapf S (ups S.length k) = to_ S k
  | 0, _ => by rw [to_zero]; rfl
  | k + 1, h => by rw [ups_next (by omega), gapf_snoc]
set_option maxRecDepth 100000 in
set_option maxHeartbeats 1000000 in
theorem gap_any (A : Option Addr) (c : Nat) (S : List Sl) (w : World) (h : Pag w A c S) :
    Calls Try.prog 65 #[.slice A 512 c] w fun e w' => e = .returned (.tuple #[.int .i64 ((2 * (S.length + 1) : Nat) : Int), .int .i64 ((512 - tot S : Nat) : Int)]) ∧ Below w.heap.size w w' := by
  refine (callsIn_wide (n := 5)).1 ?_
  refine callsIn_of_wp_marks Try.func65 rfl trivial ?_ rfl
  simp only [Try.ntmps65, List.size_toArray, List.length_cons, List.length_nil, Nat.reduceAdd, Nat.reduceSub, Array.replicate_succ, Array.replicate_zero, List.push_toArray, List.append_toArray, List.nil_append, List.cons_append]
  gi_wp2_with (refine ⟨trivial, ?_⟩; gi_at_call 62; refine (callsIn_wide.2 (spots_any _ _ _ _)).mono ?_; rintro e w' ⟨rfl, rfl⟩)
  have hS := h.2
  have hr := hS.room
  have bN := Boxed.new w 3 (.int .i64 512)
  have bP := Boxed.new (w.alloc (.cells #[.int .i64 512] 3)) 32 (.slice A 512 c)
  rw [World.size_alloc] at bP
  have hB0 : Below w.heap.size w ((w.alloc (.cells #[.int .i64 512] 3)).alloc (.cells #[.slice A 512 c] 32)) := al (al (Below.refl _ _) _) _
  refine wp_spots (by omega) (w.heap.size + 1) w.heap.size A c S hS bP (by simp; omega) (h.1.1.below hB0 (Nat.le_refl _)) h.1.2.2 rfl rfl
    (fun pre W => Boxed W w.heap.size 3 (.int .i64 (gapf S pre : Nat)) ∧ Below w.heap.size w W) (fun _ _ _ => False)
    (OwnFrom.and (Own.from (boxed_own _ _ (fun pre => .int .i64 (gapf S pre : Nat))) _) (ownFrom_below (Nat.le_refl _) (by simp; omega)))
    (fun _ _ _ _ _ hs _ _ => hs) ⟨bN.alloc _, hB0⟩ w.heap.size (Nat.le_refl _) (fun pre W hi => hi.2.size)
    (fun x Bx => { tmps := #[.slice A 512 c, undef, .int .i64 0, .int .i64 0, .pointer (some ⟨w.heap.size, 0, none⟩), undef, .pointer (some ⟨Bx, 0, none⟩), .slice A 512 c, .func (.func 71) #[] #[.pointer (some ⟨w.heap.size + 1, 0, none⟩)], .int .i64 (x.1 : Int), .agg #[.bool (full S x.1), .int .i64 (to_ S (x.1 + 1) : Nat), .int .i64 (to_ S x.1 : Nat)], undef, undef, undef, undef, undef, undef], defers := [] }) ?assign ?body ?done ?stop
  case assign =>
    intro l x W K hK
    simp only [spv]
    gi_wp2
    exact hK
  case body =>
    rintro l pre x Bx W hBx ⟨hb, hB⟩ hs _
    obtain ⟨c0, c1, c2⟩ := hs.cells
    have hc := hb.cell
    have hf := hb.frozen
    have HU := Lib.hid (show gapf S (pre ++ [x]) = to_ S (x.1 + 1) from gapf_snoc _ _ _)
    gi_wp2
    refine ⟨(KeepsOthers.setCell _ _ _).from _, kp_set _ _ _ (Nat.le_refl _) (by omega), ?_, hB.setCell (p := ⟨w.heap.size, 0, none⟩) (Nat.le_refl _) _⟩
    show Boxed _ _ _ (.int .i64 (gapf S (pre ++ [x]) : Nat))
    rw [HU.out]
    exact hb.set _
  case done =>
    rintro D W hD ⟨hb, hB⟩ hK
    have hc := hb.cell
    have HC := Lib.hid (fun q => count_any A c S (W.drewN q) (h.below (below_drewN hB _)))
    have hk9 : S.length ≤ 1000 := by omega
    have HG := Lib.hid (show gapf S (ups S.length S.length) = 512 - tot S by rw [gapf_ups S _ (Nat.le_refl _), to_all])
    have HB := Lib.hid hB
    have hD2 : w.heap.size ≤ D := by simp at hD; omega
    clear hb hB h
    gi_wp2
    refine wpIn_wide.2 ?_
    go_quiet (first | (go_at_call 63; exact Calls.quiet_of (HC.out _)) | (go_at_call 70; exact Calls.quiet_of_same (markAt_any _ hk9 _)))
    gi_wp2
    refine ⟨by simp, .inl ⟨_, _, rfl, run_takeDeferred hK, ?_⟩⟩
    refine ⟨_, results_tmp2 rfl _ _ _, ?_, fin_below (below_drewN HB.out _) hD2 hK rfl rfl⟩
    show Ending.returned (.tuple #[.int .i64 ((2 * (S.length + 1) : Nat) : Int), .int .i64 (gapf S (ups S.length S.length) : Nat)]) = _
    rw [HG.out]
  case stop =>
    rintro D c k W _ _ h _
    exact h.elim
theorem room_any (A : Option Addr) (c : Nat) (S : List Sl) (w : World) (h : Pag w A c S) :
    Calls Try.prog 52 #[.slice A 512 c] w fun e w' => e = .returned (.int .i64 (roomN S : Int)) ∧ Below w.heap.size w w' := by
  have HG := Lib.hid (gap_any A c S w h)
  have hr := h.2.room
  clear h
  go_enter Try.func52, Try.ntmps52
  go_wp2_with (go_at_call 65; (with_reducible refine HG.out.mono ?_); rintro e w1 ⟨rfl, hb1⟩; have HB1 := Lib.hid hb1; clear hb1)
  go_ret
  exact ⟨ri (by unfold roomN; omega), HB1.out⟩
end Go.Proofs.Ythcilmlaoddckaa.Pg
