/- The law's act: Drop. -/
import Derived.Test.YtjlfacmmokfleaaBtRefs
import Derived.Deep.RegionWith
namespace Go.Proofs.Ytjlfacmmokfleaa.Bt
open Go.RowKit Go.Proofs.Ytjlfacmmokfleaa.Mem Go.Proofs.Ytjlfacmmokfleaa.Right
set_option linter.unusedVariables false

set_option maxRecDepth 100000 in
set_option maxHeartbeats 8000000 in
theorem done_drop (w0 w : World) (tb rb n : Nat) (A : Option Addr) (m c : Nat) (l : List UInt8) (x : Int) (h : Duo w w0.heap.size tb rb n) (hb0 : Below w0.heap.size w0 w) (hp : Bs w0 A m c l) (hA : A = none → c = 0) (hm : m ≤ 100) (hx : -9223372036854775808 ≤ x) (hn : n ≤ 500) :
    Calls Try.prog 10 #[.pointer (some ⟨tb, 0, none⟩), .pointer (some ⟨rb, 0, none⟩), .agg #[.int .i64 1, .slice A m c, .int .i64 x]] w (DoneG w0 w tb rb (n + 1)) := by
  obtain ⟨W, hW⟩ : ∃ W, w.alloc (.cells #[.int .i64 1, .slice A m c, .int .i64 x] tA) = W := ⟨_, rfl⟩
  have hB : Below w.heap.size w W := by rw [← hW]; exact al (Below.refl _ _) _
  have hbx : Cel W w.heap.size tA #[.int .i64 1, .slice A m c, .int .i64 x] := by rw [← hW]; exact Cel.new w _ _ rfl
  obtain ⟨bx, hbxe⟩ : ∃ b, w.heap.size = b := ⟨_, rfl⟩
  rw [hbxe] at hbx
  obtain ⟨v, L, L', h2, h3, h4, h5, h6⟩ := h.both
  have hWd := h2.below hB
  have hWr := h3.below hB
  have hB0 : Below w0.heap.size w0 W := Mem.on hb0 hB
  have hpW := hp.below hB0
  obtain ⟨q, hq⟩ : ∃ q, has (l, x) L = q := ⟨_, rfl⟩
  have HT := Lib.hid (show ∀ W', Below W.heap.size W W' → Calls Try.prog 18 #[.pointer (some ⟨tb, 0, none⟩), .slice A m c, .int .i64 x] W' fun e w' => e = .returned (.bool q) ∧ (w'.cell? ⟨bx, 1, none⟩ = some (.slice A m c) ∧ w'.cell? ⟨bx, 2, none⟩ = some (.int .i64 x)) ∧ Below w0.heap.size w0 w' ∧ Hid (Calls Try.prog 22 #[.pointer (some ⟨rb, 0, none⟩), .slice A m c, .int .i64 x] w' fun e' w2 => e' = .returned (.bool q) ∧ Hid (Duo w2 w0.heap.size tb rb (n + 1) ∧ Below w0.heap.size w0 w2)) from fun W' hW' => by
    have hb := hWd.below hW'
    have hr := hWr.below hW'
    have hpp := hpW.below hW'
    have hbxx := hbx.below hW'
    have hb00 := Mem.on hB0 hW'
    refine (drop_t W' w0.heap.size tb [rb] L A m c l x q (hWd.below hW') hpp hA (by omega) (by omega) hq).mono ?_
    rintro e w' ⟨rfl, k1, k2, k3⟩
    have hbx2 := k1.cel hbxx (by decide)
    have hpp2 : Bs w' A m c l := hp.below (hb00.trans k1.below)
    refine ⟨rfl, ⟨hbx2.at_ 1, hbx2.at_ 2⟩, hb00.trans k1.below, Lib.hid ?_⟩
    refine (dropR_t w' w0.heap.size rb v L' A m c l x q (hr.kp k1) hpp2 (by have := congrArg List.length h4; simp at this; omega) (by have := k1.below.size; have := hb.lt; omega) (by rw [← has_map h4]; exact hq)).mono ?_
    intro e' w2 k4
    have k5 := k4.1
    have k6 := k4.2.1
    refine ⟨k5, Lib.hid ⟨?_, (hb00.trans k1.below).trans ?_⟩⟩
    · exact (both_drop (w := w) h4 h5 h6 k2 k3 k4).mono (by omega)
    · exact k6.below (fun y hy => by rw [List.mem_singleton] at hy; subst hy; exact hr.rb_) (by have := k1.below.size; have := hb.lt; omega))
  have HK := Lib.hid (show ∀ W', Below W.heap.size W W' → W'.cell? ⟨bx, 1, none⟩ = some (.slice A m c) ∧ W'.cell? ⟨bx, 2, none⟩ = some (.int .i64 x) from fun W' hW' => ⟨(hbx.below hW').at_ 1, (hbx.below hW').at_ 2⟩)
  have a0 := hbx.at_ 0
  obtain ⟨a1, a2⟩ := HK.out W (Below.refl _ _)
  have HB0 := Lib.hid hB0
  clear h h2 h3 h4 h5 h6 hWd hWr hpW hp hq hB hB0 hb0
  go_enter Try.func10, Try.ntmps10
  go_upto_region 1 with fail
  (try rw [hW])
  (try rw [hbxe])
  clear hW hbxe hbx
  go_upto_region 5 with (fail)
  have hb9 := Below.refl W.heap.size W
  have hb8 := (Below.refl W.heap.size W).drew
  have tq : (q == q) = true := by simp
  go_region_with (first | (go_at_call 18; (refine (HT.out _ (by first | assumption)).mono ?_); rintro e w3 ⟨rfl, ⟨b1, b2⟩, hb3, HRR⟩) | (go_at_call 22; (with_reducible refine HRR.out.mono ?_); rintro e w4 ⟨rfl, HE⟩))
  all_goals first | (go_wp2; go_ret; exact ⟨rfl, HE.out.1, HE.out.2⟩) | (go_ret; exact ⟨rfl, HE.out.1, HE.out.2⟩) | trace_state
end Go.Proofs.Ytjlfacmmokfleaa.Bt
