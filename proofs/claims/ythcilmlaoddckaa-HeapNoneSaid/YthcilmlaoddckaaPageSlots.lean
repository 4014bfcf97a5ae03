/- Which slots a page has that are not empty. -/
import Derived.Test.YthcilmlaoddckaaPageCheck
import Derived.Test.YthcilmlaoddckaaMemAppend
import Derived.Maps.AppendAt
namespace Go.Proofs.Ythcilmlaoddckaa.Pg
open Go.RowKit Go.Proofs.Ythcilmlaoddckaa.Mem Go.Proofs.Ythcilmlaoddckaa.Right
set_option linter.unusedVariables false
attribute [local go_sem] Oper.semAt_some

/-- The slots that are not empty, rising. -/
def slotsf (S : List Sl) (pre : List (Ix S.length)) : List Nat := (pre.filter fun x => full S x.1).map fun x => x.1
theorem slotsf_snoc (S : List Sl) (pre : List (Ix S.length)) (x : Ix S.length) : slotsf S (pre ++ [x]) = slotsf S pre ++ (if full S x.1 then [x.1] else []) := by
  unfold slotsf
  rw [List.filter_append, List.map_append]
  congr 1
  cases h : full S x.1 <;> simp [h]
def slotsN (S : List Sl) : Nat → List Nat
  | 0 => []
  | k + 1 => slotsN S k ++ (if full S k then [k] else [])
theorem slotsf_ups (S : List Sl) : ∀ k, k ≤ S.length → slotsf S (ups S.length k) = slotsN S k
  | 0, _ => rfl
  | k + 1, h => by
    rw [ups_next (by omega), slotsf_snoc, slotsf_ups S k (by omega)]; rfl
theorem slotsN_len (S : List Sl) : ∀ k, (slotsN S k).length ≤ k
  | 0 => Nat.le_refl _
  | k + 1 => by
    have := slotsN_len S k
    unfold slotsN
    rw [List.length_append]
    split
    · show _ + 1 ≤ _; omega
    · show _ + 0 ≤ _; omega
theorem slotsf_len (S : List Sl) (pre : List (Ix S.length)) : (slotsf S pre).length ≤ pre.length := by
  unfold slotsf
  rw [List.length_map]
  exact List.length_filter_le _ _
def ints (l : List Nat) : List Value := l.map fun (k : Nat) => Value.int .i64 (k : Int)
theorem ints_len (l : List Nat) : (ints l).length = l.length := by simp [ints]
theorem infoInt : (Try.prog.info? 3).map (fun i => (i.zero, i.size, i.bytes)) = some (some (.int .i64 0), 1, 8) := by kernel_rfl
theorem not_row {W : World} {j : Nat} {cs : Array Value} {t e : TypeId} {fr : Nat × Nat} (h : W.heap[j]? = some (.cells cs t fr)) (hte : t ≠ e) {base size k : Nat} {v : Value} {xs : List Value} (hr : W.ownsRow base e size v k xs) : some j ≠ v.ownBlock := by
  rcases hr.2 with ⟨rfl, _⟩ | ⟨g, cap, cur, rfl, _, hgb, _⟩
  · simp [Value.ownBlock]
  · intro e'
    obtain rfl : j = g := by simpa [Value.ownBlock] using e'
    have := h.symm.trans hgb
    simp at this
    exact hte this.2.1
set_option maxRecDepth 100000 in
set_option maxHeartbeats 2000000 in
theorem slots_any (A : Option Addr) (c : Nat) (S : List Sl) (w : World) (h : Good w A c S) :
    Calls Try.prog 44 #[.slice A 512 c] w fun e w' => ∃ v, e = .returned v ∧ w'.ownsRow w.heap.size 3 1 v (slotsN S S.length).length (ints (slotsN S S.length)) ∧ Below w.heap.size w w' := by
  obtain ⟨i0, hi, hz0, hz1, hz2⟩ := info_parts infoInt
  have HC := Lib.hid (check_got A c S w h)
  have hS := h.2.fit
  have hr := hS.room
  refine (callsIn_wide (n := 5)).1 ?_
  refine callsIn_of_wp_marks Try.func44 rfl trivial ?_ rfl
  simp only [Try.ntmps44, List.size_toArray, List.length_cons, List.length_nil, Nat.reduceAdd, Nat.reduceSub, Array.replicate_succ, Array.replicate_zero, List.push_toArray, List.append_toArray, List.nil_append, List.cons_append]
  gi_wp2_with first | (refine ⟨trivial, ?_⟩; gi_at_call 46; refine (callsIn_wide.2 HC.out).mono ?_; rintro e w1 ⟨rfl, hb1⟩; have HB1 := Lib.hid hb1; clear hb1) | (refine ⟨trivial, ?_⟩; gi_at_call 62; refine (callsIn_wide.2 (spots_any _ _ _ _)).mono ?_; rintro e w' ⟨rfl, rfl⟩)
  have bO := Boxed.new w1 93 (.slice none 0 0)
  have bP := Boxed.new (w1.alloc (.cells #[.slice none 0 0] 93)) 32 (.slice A 512 c)
  rw [World.size_alloc] at bP
  have hB0 : Below w.heap.size w ((w1.alloc (.cells #[.slice none 0 0] 93)).alloc (.cells #[.slice A 512 c] 32)) := al (al HB1.out _) _
  have hs1 := HB1.out.size
  refine wp_spots (by omega) (w1.heap.size + 1) w.heap.size A c S hS bP (by simp; omega) (h.1.1.below hB0 (Nat.le_refl _)) h.1.2.2 rfl rfl
    (fun pre W => (∃ v, Boxed W w1.heap.size 93 v ∧ W.ownsRow w.heap.size 3 1 v (slotsf S pre).length (ints (slotsf S pre)) ∧ True) ∧ Below w.heap.size w W) (fun _ _ _ => False)
    (OwnFrom.and (Own.from (holdsRow_own w.heap.size w1.heap.size 93 3 1 (fun pre => (slotsf S pre).length) (fun pre => ints (slotsf S pre)) (fun pre v => True)) _) (ownFrom_below (Nat.le_refl _) (by simp; omega)))
    (fun _ _ _ _ _ hs _ _ => hs) ⟨⟨_, bO.alloc _, World.ownsRow_nil _ _ _ _, trivial⟩, hB0⟩ w.heap.size (Nat.le_refl _) (fun pre W hi => hi.2.size)
    (fun x Bx => { tmps := #[.slice A 512 c, undef, .slice none 0 0, .pointer (some ⟨w1.heap.size, 0, none⟩), .int .i64 (x.1 : Int), .pointer (some ⟨Bx, 0, none⟩), .slice A 512 c, .int .i64 0, .bool false, .slice A 512 c, .func (.func 71) #[] #[.pointer (some ⟨w1.heap.size + 1, 0, none⟩)], .int .i64 (x.1 : Int), .agg #[.bool (full S x.1), .int .i64 (to_ S (x.1 + 1) : Nat), .int .i64 (to_ S x.1 : Nat)], undef, undef, undef, undef, undef, undef, undef], defers := [] }) ?assign ?body ?done ?stop
  case assign =>
    intro l x W K hK
    simp only [spv]
    gi_wp2
    exact hK
  case body =>
    rintro l pre x Bx W hBx ⟨⟨v, hv, hrow, _⟩, hB⟩ hs hlt
    obtain ⟨c0, c1, c2⟩ := hs.cells
    have hc := hv.cell
    have hpl := slotsf_len S pre
    cases hfu : full S x.1 with
    | true =>
      rw [hfu] at c0
      have HU := Lib.hid (show slotsf S (pre ++ [x]) = slotsf S pre ++ [x.1] by rw [slotsf_snoc, if_pos hfu])
      clear hfu
      gi_wp2_with (gi_at_builtin; refine wpListIn_append_own _ rfl _ _ 93 rfl w.heap.size 3 i0 (.int .i64 0) 1 8 Try.underlying93 hi hz0 hz1 hz2 rfl (by decide) _ _ _ rfl (hrow.alloc _) ⟨W.heap.size, 0, none⟩ 1 1 [.int .i64 (x.1 : Int)] rfl rfl (cell_one_new _ _ _) (by simp [Value.oneCell']) (by unfold maxLen; omega) (by omega) (by have := hB.size; simp; omega) ?_; intro v' w2 hown' hgrow _; obtain ⟨g', cap', rfl⟩ := ownsRow_succ hown'; obtain ⟨hv1, hv2, hr2, hk2, hb2⟩ := hv.appended (by decide) hrow hB.size hs1 hown' hgrow; have hc1 := hv1.cell; have hf1 := hv1.frozen)
      refine ⟨hk2.from _, ⟨hb2, fun j cs t fr hj ht hu => ?_⟩, ⟨_, hv2, ?_, trivial⟩, hB.trans hb2⟩
      · show (w2.heap.modify w1.heap.size _)[j]? = _
        rw [Array.getElem?_modify, if_neg (by omega)]
        have hne : t ≠ 3 := by
          rcases ht with e | e <;> (rw [e]; decide)
        exact ((hgrow.block j (by have := blk_lt hu; simp; omega) (not_row hu hne hrow)).trans (Below.heap_alloc W _ j (blk_lt hu))).trans hu
      · show World.ownsRow _ _ _ _ _ (slotsf S (pre ++ [x])).length (ints (slotsf S (pre ++ [x])))
        rw [HU.out]
        have e1 : (slotsf S pre ++ [x.1]).length = (slotsf S pre).length + 1 := by simp
        have e2 : ints (slotsf S pre ++ [x.1]) = ints (slotsf S pre) ++ [.int .i64 (x.1 : Int)] := by simp [ints]
        rw [e1, e2]
        exact hr2
    | false =>
      rw [hfu] at c0
      have HU := Lib.hid (show slotsf S (pre ++ [x]) = slotsf S pre by rw [slotsf_snoc, if_neg (by rw [hfu]; decide), List.append_nil])
      clear hfu
      gi_wp2
      refine ⟨KeepsFrom.refl _ _, kp_refl _ _ _, ⟨v, hv, ?_, trivial⟩, hB⟩
      show W.ownsRow _ _ _ v (slotsf S (pre ++ [x])).length (ints (slotsf S (pre ++ [x])))
      rw [HU.out]
      exact hrow
  case done =>
    rintro D W hD ⟨⟨v, hv, hrow, _⟩, hB⟩ hK
    have hc := hv.cell
    gi_wp2
    refine ⟨by simp, .inl ⟨_, _, rfl, run_takeDeferred hK, ?_⟩⟩
    refine ⟨_, results_tmp rfl _ _ _, v, rfl, ?_, fin_below hB (by simp at hD; omega) hK rfl rfl⟩
    have := ownsRow_putObj hrow (.deferred none) hK rfl
    rw [slotsf_ups S _ (Nat.le_refl _)] at this
    exact this
  case stop =>
    rintro D c k W _ _ h _
    exact h.elim
end Go.Proofs.Ythcilmlaoddckaa.Pg
