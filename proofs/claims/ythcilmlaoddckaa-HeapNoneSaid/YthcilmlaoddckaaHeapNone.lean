/- A heap that is not there, and one that no call made: what its calls answer. -/
import Derived.Test.YthcilmlaoddckaaHeapAlls
namespace Go.Proofs.Ythcilmlaoddckaa.Pg
open Go.RowKit Go.Proofs.Ythcilmlaoddckaa.Mem Go.Proofs.Ythcilmlaoddckaa.Right
set_option linter.unusedVariables false
attribute [local go_sem] Oper.semAt_some

/-- No heap, or one that no call made. -/
def NP (w : World) (A : Option Addr) : Prop := A = none ∨ ∃ B, A = some ⟨B, 0, none⟩ ∧ Cel w B 55 #[.bool false, .slice none 0 0]
theorem NP.below {w w' : World} {A : Option Addr} (h : NP w A) (hb : Below w.heap.size w w') : NP w' A := by
  rcases h with h | ⟨B, e, hc⟩
  · exact .inl h
  · exact .inr ⟨B, e, hc.below hb⟩
theorem check_n (A : Option Addr) (w : World) (h : NP w A) : Calls Try.prog 36 #[.pointer A] w fun e w' => e = .returned (.int .i64 1) ∧ w = w' := by
  rcases h with rfl | ⟨B, rfl, hc⟩
  · exact (check_nil w).mono fun e w' ⟨a, b⟩ => ⟨a, b.symm⟩
  · exact (check_zero B w (hc.at_ 0)).mono fun e w' ⟨a, b⟩ => ⟨a, b.symm⟩
theorem checkData_n (A : Option Addr) (A2 : Option Addr) (n c : Nat) (w : World) (h : NP w A) : Calls Try.prog 30 #[.pointer A, .slice A2 n c] w fun e w' => e = .returned (.int .i64 1) ∧ w = w' := by
  have H := Lib.hid (check_n A w h)
  clear h
  go_enter Try.func30, Try.ntmps30
  go_wp2_with (go_at_call 36; (with_reducible refine H.out.mono ?_); rintro e w1 ⟨rfl, rfl⟩)
  go_ret
  exact ⟨rfl, rfl⟩
theorem find_n (A : Option Addr) (p s : Int) (w : World) (h : NP w A) : Calls Try.prog 28 #[.pointer A, .agg #[.int .i64 p, .int .i64 s]] w fun e w' => e = .returned (.tuple #[.slice none 0 0, .int .i64 1]) ∧ Below w.heap.size w w' := by
  have HB0 := Lib.hid (al (Below.refl w.heap.size w) (.cells #[.int .i64 p, .int .i64 s] 31))
  have H := Lib.hid (check_n A _ (h.below HB0.out))
  clear h
  go_enter Try.func28, Try.ntmps28
  go_wp2_with (go_at_call 36; (with_reducible refine H.out.mono ?_); rintro e w1 ⟨rfl, rfl⟩)
  go_ret2
  exact ⟨rfl, HB0.out⟩
theorem get_n (A : Option Addr) (p s : Int) (w : World) (h : NP w A) : Calls Try.prog 16 #[.pointer A, .agg #[.int .i64 p, .int .i64 s]] w fun e w' => e = .returned (.tuple #[.slice none 0 0, .int .i64 1]) ∧ Below w.heap.size w w' := by
  have HB0 := Lib.hid (al (Below.refl w.heap.size w) (.cells #[.int .i64 p, .int .i64 s] 31))
  have H := Lib.hid (find_n A p s _ (h.below HB0.out))
  clear h
  go_enter Try.func16, Try.ntmps16
  go_wp2_with (go_at_call 28; (with_reducible refine H.out.mono ?_); rintro e w1 ⟨rfl, hb1⟩; have HB1 := Lib.hid (Mem.on HB0.out hb1); clear hb1)
  go_ret2
  exact ⟨rfl, HB1.out⟩
theorem drop_n (A : Option Addr) (p s : Int) (w : World) (h : NP w A) : Calls Try.prog 20 #[.pointer A, .agg #[.int .i64 p, .int .i64 s]] w fun e w' => e = .returned (.int .i64 1) ∧ Below w.heap.size w w' := by
  have HB0 := Lib.hid (al (Below.refl w.heap.size w) (.cells #[.int .i64 p, .int .i64 s] 31))
  have H := Lib.hid (find_n A p s _ (h.below HB0.out))
  clear h
  go_enter Try.func20, Try.ntmps20
  go_wp2_with (go_at_call 28; (with_reducible refine H.out.mono ?_); rintro e w1 ⟨rfl, hb1⟩; have HB1 := Lib.hid (Mem.on HB0.out hb1); clear hb1)
  go_ret
  exact ⟨rfl, HB1.out⟩
theorem pages_n (A : Option Addr) (w : World) (h : NP w A) : Calls Try.prog 21 #[.pointer A] w fun e w' => e = .returned (.slice none 0 0) ∧ w = w' := by
  have H := Lib.hid (check_n A w h)
  clear h
  go_enter Try.func21, Try.ntmps21
  go_wp2_with (go_at_call 36; (with_reducible refine H.out.mono ?_); rintro e w1 ⟨rfl, rfl⟩)
  go_ret
  exact ⟨rfl, rfl⟩
theorem put_n (A : Option Addr) (A2 : Option Addr) (m c2 : Nat) (w : World) (h : NP w A) :
    Calls Try.prog 18 #[.pointer A, .slice A2 m c2] w fun e w' => e = .returned (.tuple #[.agg #[.int .i64 0, .int .i64 0], .int .i64 1]) ∧ Below w.heap.size w w' := by
  have HB0 := Lib.hid (al (Below.refl w.heap.size w) (.cells #[.int .i64 0, .int .i64 0] 31))
  have HZ0 := Lib.hid (Cel.new w 31 #[.int .i64 0, .int .i64 0] rfl)
  have HC := Lib.hid (checkData_n A A2 m c2 _ (h.below HB0.out))
  have z0 := HZ0.out.at_ 0
  have z1 := HZ0.out.at_ 1
  have f0 := HZ0.out.open_ 0
  have f1 := HZ0.out.open_ 1
  have HS := HZ0.out
  clear h
  go_enter Try.func18, Try.ntmps18
  go_upto_region 3 with (go_at_call 30; (with_reducible refine HC.out.mono ?_); rintro e w1 ⟨rfl, rfl⟩)
  generalize w.alloc (.cells #[.int .i64 0, .int .i64 0] 31) = W1 at HB0 HS z0 z1 f0 f1 ⊢
  go_wp2
  refine bodyPost_ret (res_ct rfl rfl (rid_load ((HS.set 0 (.int .i64 0)).set 1 (.int .i64 0)))) rfl ?_
  exact ⟨rfl, (HB0.out.setCell (p := ⟨w.heap.size, 0, none⟩) (Nat.le_refl _) _).setCell (p := ⟨w.heap.size, 1, none⟩) (Nat.le_refl _) _⟩
theorem set_n (A : Option Addr) (p s : Int) (A2 : Option Addr) (m c2 : Nat) (w : World) (h : NP w A) :
    Calls Try.prog 19 #[.pointer A, .agg #[.int .i64 p, .int .i64 s], .slice A2 m c2] w fun e w' => e = .returned (.tuple #[.agg #[.int .i64 0, .int .i64 0], .int .i64 1]) ∧ Below w.heap.size w w' := by
  obtain ⟨W, hW⟩ : ∃ W, (w.alloc (.cells #[.int .i64 p, .int .i64 s] 31)).alloc (.cells #[.int .i64 0, .int .i64 0] 31) = W := ⟨_, rfl⟩
  have hB0 : Below w.heap.size w W := by rw [← hW]; exact al (al (Below.refl _ _) _) _
  have hZ0 : Cel W (w.heap.size + 1) 31 #[.int .i64 0, .int .i64 0] := by rw [← hW]; exact Cel.new (w.alloc _) _ _ (by simp)
  have HC := Lib.hid (checkData_n A A2 m c2 _ (h.below hB0))
  have z0 := hZ0.at_ 0
  have z1 := hZ0.at_ 1
  have f0 := hZ0.open_ 0
  have f1 := hZ0.open_ 1
  clear h
  go_enter Try.func19, Try.ntmps19
  go_upto_region 1 with fail
  clear hW
  go_wp2_with (go_at_call 30; (with_reducible refine HC.out.mono ?_); rintro e w1 ⟨rfl, rfl⟩)
  refine bodyPost_ret (res_ct rfl rfl (rid_load ((hZ0.set 0 (.int .i64 0)).set 1 (.int .i64 0)))) rfl ?_
  exact ⟨rfl, (hB0.setCell (p := ⟨w.heap.size + 1, 0, none⟩) (Nat.le_succ _) _).setCell (p := ⟨w.heap.size + 1, 1, none⟩) (Nat.le_succ _) _⟩
/-- Its items: none. -/
theorem items_n (n : Nat) (hn : 1 ≤ n) (Bn : Nat) (A : Option Addr) (w : World) (h : NP w A) (hBn : Boxed w Bn 23 (.pointer A)) :
    Each n Try.prog 43 #[.pointer (some ⟨Bn, 0, none⟩)] (fun x : Iv => #[ivv x]) (fun _ _ => True) (fun xs _ => xs = []) (fun xs => xs = []) w := by
  intro l J W hW hJ hY h0
  have HC := Lib.hid (check_n A W (h.below hW))
  have hcB := (show Boxed W Bn 23 (.pointer A) from (hW.block Bn hBn.lt).trans hBn).cell
  clear h hBn hY hJ
  refine callsIn_of_wp Try.func43 rfl trivial ?_ rfl
  simp only [Try.ntmps43, List.size_toArray, List.length_cons, List.length_nil, Nat.reduceAdd, Nat.reduceSub, Array.replicate_succ, Array.replicate_zero, List.push_toArray, List.append_toArray, List.nil_append, List.cons_append]
  gi_wp2_with (refine ⟨trivial, ?_⟩; gi_at_call 36; refine (callsIn_wide.2 HC.out).mono ?_; rintro e w1 ⟨rfl, rfl⟩)
  exact bodyPost_ret (results_none rfl _ _ _) rfl ⟨⟨_, rfl⟩, [], rfl, rfl, h0⟩
set_option maxRecDepth 100000 in
set_option maxHeartbeats 2000000 in
theorem len_n (A : Option Addr) (w : World) (h : NP w A) :
    Calls Try.prog 11 #[.pointer A] w fun e w' => e = .returned (.int .i64 0) ∧ Below w.heap.size w w' := by
  refine (callsIn_wide (n := 5)).1 ?_
  refine callsIn_of_wp_marks Try.func11 rfl trivial ?_ rfl
  simp only [Try.ntmps11, List.size_toArray, List.length_cons, List.length_nil, Nat.reduceAdd, Nat.reduceSub, Array.replicate_succ, Array.replicate_zero, List.push_toArray, List.append_toArray, List.nil_append, List.cons_append]
  gi_wp2_with (refine ⟨trivial, ?_⟩; gi_at_call 26; refine (callsIn_wide.2 (items_any _ _)).mono ?_; rintro e w' ⟨rfl, rfl⟩)
  have bN := Boxed.new w 3 (.int .i64 0)
  have bP := Boxed.new (w.alloc (.cells #[.int .i64 0] 3)) 23 (.pointer A)
  rw [World.size_alloc] at bP
  have hB0 : Below w.heap.size w ((w.alloc (.cells #[.int .i64 0] 3)).alloc (.cells #[.pointer A] 23)) := al (al (Below.refl _ _) _) _
  refine wp_each (by omega) rfl (enters_of Try.func43 (by kernel_rfl) rfl) (items_n 4 (by omega) (w.heap.size + 1) A _ (h.below hB0) bP) (fun x => rfl) (fun _ _ => trivial) (fun _ _ _ _ _ _ _ => trivial)
    (fun pre W => Boxed W w.heap.size 3 (.int .i64 0) ∧ Below w.heap.size w W)
    ⟨OwnFrom.and (Own.from (boxed_own _ _ (fun pre : List Iv => .int .i64 0)) _) (ownFrom_below (Nat.le_refl _) (by simp; omega)), fun pre A C hA hb => ⟨(hb.block _ hA.1.lt).trans hA.1, hA.2.trans (hb.mono hA.2.size)⟩⟩
    (ownFrom_pure _ (fun xs : List Iv => xs = [])) ⟨bN.alloc _, hB0⟩
    (fun pre x a' W => False) (fun pre x => ownFrom_pure _ (fun _ => False)) ?assign ?body ?done
  case assign =>
    intro l pre x W hI hGx
    simp at hGx
  case body =>
    rintro l pre x a' W ⟨⟩
  case done =>
    rintro D xs W hD hS hGx ⟨hb, hB⟩ hK
    have hc := hb.cell
    gi_wp2
    refine ⟨by simp, .inl ⟨_, _, rfl, run_takeDeferred hK, ?_⟩⟩
    exact ⟨_, results_tmp rfl _ _ _, rfl, fin_below hB (by simp at hD; omega) hK rfl rfl⟩
set_option maxRecDepth 100000 in
set_option maxHeartbeats 2000000 in
theorem all_n (A : Option Addr) (w : World) (h : NP w A) :
    Calls Try.prog 14 #[.pointer A] w fun e w' => e = .returned (.slice none 0 0) ∧ Below w.heap.size w w' := by
  refine (callsIn_wide (n := 5)).1 ?_
  refine callsIn_of_wp_marks Try.func14 rfl trivial ?_ rfl
  simp only [Try.ntmps14, List.size_toArray, List.length_cons, List.length_nil, Nat.reduceAdd, Nat.reduceSub, Array.replicate_succ, Array.replicate_zero, List.push_toArray, List.append_toArray, List.nil_append, List.cons_append]
  gi_wp2_with (refine ⟨trivial, ?_⟩; gi_at_call 26; refine (callsIn_wide.2 (items_any _ _)).mono ?_; rintro e w' ⟨rfl, rfl⟩)
  have bN := Boxed.new w 43 (.slice none 0 0)
  have bP := Boxed.new (w.alloc (.cells #[.slice none 0 0] 43)) 23 (.pointer A)
  rw [World.size_alloc] at bP
  have hB0 : Below w.heap.size w ((w.alloc (.cells #[.slice none 0 0] 43)).alloc (.cells #[.pointer A] 23)) := al (al (Below.refl _ _) _) _
  refine wp_each (by omega) rfl (enters_of Try.func43 (by kernel_rfl) rfl) (items_n 4 (by omega) (w.heap.size + 1) A _ (h.below hB0) bP) (fun x => rfl) (fun _ _ => trivial) (fun _ _ _ _ _ _ _ => trivial)
    (fun pre W => Boxed W w.heap.size 43 (.slice none 0 0) ∧ Below w.heap.size w W)
    ⟨OwnFrom.and (Own.from (boxed_own _ _ (fun pre : List Iv => .slice none 0 0)) _) (ownFrom_below (Nat.le_refl _) (by simp; omega)), fun pre A C hA hb => ⟨(hb.block _ hA.1.lt).trans hA.1, hA.2.trans (hb.mono hA.2.size)⟩⟩
    (ownFrom_pure _ (fun xs : List Iv => xs = [])) ⟨bN.alloc _, hB0⟩
    (fun pre x a' W => False) (fun pre x => ownFrom_pure _ (fun _ => False)) ?assign ?body ?done
  case assign =>
    intro l pre x W hI hGx
    simp at hGx
  case body =>
    rintro l pre x a' W ⟨⟩
  case done =>
    rintro D xs W hD hS hGx ⟨hb, hB⟩ hK
    have hc := hb.cell
    gi_wp2
    refine ⟨by simp, .inl ⟨_, _, rfl, run_takeDeferred hK, ?_⟩⟩
    exact ⟨_, results_tmp rfl _ _ _, rfl, fin_below hB (by simp at hD; omega) hK rfl rfl⟩
end Go.Proofs.Ythcilmlaoddckaa.Pg
