/- How deep a node stands; the first of a node's pairs. -/
import Derived.Test.YtjlfacmmokfleaaBtClone
namespace Go.Proofs.Ytjlfacmmokfleaa.Bt
open Go.RowKit Go.Proofs.Ytjlfacmmokfleaa.Mem Go.Proofs.Ytjlfacmmokfleaa.Right
set_option linter.unusedVariables false

theorem depth_any : ∀ (d : Nat) (m : Mt (d + 1)) (w : World), Rep w (d + 1) m → Inn (d + 1) m → (d ≠ 0 → 1 ≤ sz (d + 1) m) → d ≤ 1000 →
    Calls Try.prog 29 #[.pointer (some ⟨nb m, 0, none⟩)] w fun e w' => e = .returned (.int .i64 ((d : Int) + 1)) ∧ w' = w
  | 0, m, w, h, _, _, _ => by
    have H := Lib.hid (leaf_any (nb m) (nvp m) (nvk m) (nps m) _ w h.node true (by rw [nbs_zero m]; rfl))
    clear h
    go_enter Try.func29, Try.ntmps29
    go_wp2_with (go_at_call 47; (with_reducible refine H.out.mono ?_); rintro e w1 ⟨rfl, rfl⟩)
    go_ret
    exact ⟨rfl, rfl⟩
  | d + 1, m, w, h, hi, hs, hd => by
    obtain ⟨k, t, e, e2, h1, h2⟩ := first_kid hi (hs (by omega))
    obtain ⟨hn, hk⟩ := kids_cons (bl (d + 1)) e
    obtain ⟨g, c, ev, hg, cg⟩ := h.node.kid hk
    obtain ⟨A, c1, A', c', _, ev2, ⟨y0, y1⟩, _⟩ := h.node.open_
    rw [ev] at ev2
    injection ev2 with ev2 ev3 ev4
    subst ev2 ev4
    obtain ⟨n, hn2⟩ : ∃ n, (nbs m).length = n := ⟨_, rfl⟩
    have hn3 : n = t.length + 1 := by rw [← hn2]; exact hn
    have H := Lib.hid (leaf_any (nb m) (nvp m) (nvk m) (nps m) _ w h.node false (by rw [hn2, hn3]; simp))
    have HI := Lib.hid (depth_any d k w (h.kids k (by rw [e]; simp)) h1 (fun _ => by omega) (by omega))
    have t1 : IntKind.i64.wrap (1 + ((d : Int) + 1)) = 1 + ((d : Int) + 1) := by rw [IntKind.wrap_i64]; omega
    have t2 : (0 : Int) < (n : Int) := by omega
    rw [hn2] at y1
    rw [bl_eq] at cg
    clear h hi hs hk e e2 h1 h2 ev ev3 hn2 hn3 hn
    have HE := Lib.hid (show 1 + ((d : Int) + 1) = ((d + 1 : Nat) : Int) + 1 by omega)
    go_enter Try.func29, Try.ntmps29
    go_wp2_with first | (go_at_call 47; (with_reducible refine H.out.mono ?_); rintro e w1 ⟨rfl, rfl⟩) | (go_at_call 29; (with_reducible refine HI.out.mono ?_); rintro e w1 ⟨rfl, rfl⟩)
    go_ret
    exact ⟨ri HE.out, rfl⟩
/-- A pair is handed out; of what was there nothing has turned. -/
def Least (w : World) (r : Pr) (e : Ending) (w' : World) : Prop := e = .returned (.agg #[.slice r.a r.key.length r.c, .int .i64 r.num]) ∧ Below w.heap.size w w'
set_option maxHeartbeats 1000000 in
theorem least_any (d : Nat) (m : Mt (d + 1)) (r : Pr) (t : List Pr) (w : World) (h : Rep w (d + 1) m) (hi : Inn (d + 1) m) (hs : 1 ≤ sz (d + 1) m) (hr : prs (d + 1) m = r :: t) :
    Calls Try.prog 60 #[.pointer (some ⟨nb m, 0, none⟩)] w (Least w r) := by
  have hB0 : Below w.heap.size w (w.alloc (.cells #[.slice none 0 0, .int .i64 0] tP)) := al (Below.refl _ _) _
  have HB0 := Lib.hid hB0
  have H0 := Lib.hid (Rep.below hB0 h)
  have HZ := Lib.hid (Cel.new w tP #[.slice none 0 0, .int .i64 0] rfl)
  have HI := Lib.hid hi
  have HS := Lib.hid hs
  have HR := Lib.hid (show ∃ t, prs (d + 1) m = r :: t from ⟨t, hr⟩)
  clear h hB0 hi hs hr
  go_enter Try.func60, Try.ntmps60
  go_wp2
  go_loopg [0] d (fun k p wr => ∃ m : Mt (k + 1), p = .pointer (some ⟨nb m, 0, none⟩) ∧ Hid (Rep wr (k + 1) m) ∧ Hid (Inn (k + 1) m) ∧ Hid (1 ≤ sz (k + 1) m) ∧ Hid (∃ t, prs (k + 1) m = r :: t) ∧ Hid (Below w.heap.size w wr) ∧ Hid (Cel wr w.heap.size tP #[.slice none 0 0, .int .i64 0]))
  case atStart => exact ⟨m, rfl, H0, HI, HS, HR, HB0, HZ⟩
  case round =>
    clear HB0 H0 HZ HI HS HR
    obtain ⟨m, rfl, H, HI, HS, HR, HB, HZ⟩ := hrel
    cases gk with
    | zero =>
      have HL := Lib.hid (leaf_any (nb m) (nvp m) (nvk m) (nps m) _ wr H.out.node true (by rw [nbs_zero m]; rfl))
      obtain ⟨t, ht⟩ := HR.out
      rw [prs_zero] at ht
      obtain ⟨g, c, ev, hg, c0, c1, hk⟩ := H.out.node.pair (k := 0) (r := r) (by rw [ht]; rfl)
      obtain ⟨A, c2, A', c', ev2, _, ⟨y0, y1⟩, _⟩ := H.out.node.open_
      rw [ev] at ev2
      injection ev2 with ev2 ev3 ev4
      subst ev2 ev4
      rw [Nat.zero_mul] at c0 c1
      have t2 : (0 : Int) < ((nps m).length : Int) := by rw [ht]; simp
      have z0 := HZ.out.at_ 0
      have z1 := HZ.out.at_ 1
      have f0 := HZ.out.open_ 0
      have f1 := HZ.out.open_ 1
      clear ev ev3 ht hk
      generalize (nps m).length = n at *
      go_wp2_with (go_at_call 47; (with_reducible refine HL.out.mono ?_); rintro e w1 ⟨rfl, rfl⟩)
      refine bodyPost_ret (v := .agg #[.slice r.a r.key.length r.c, .int .i64 r.num]) ?_ rfl ?_
      · rw [results_cell rfl]
        exact pair_load ((HZ.out.set 0 (.slice r.a r.key.length r.c)).set 1 (.int .i64 r.num))
      exact ⟨rfl, (HB.out.setCell (p := ⟨w.heap.size, 0, none⟩) (Nat.le_refl _) _).setCell (p := ⟨w.heap.size, 1, none⟩) (Nat.le_refl _) _⟩
    | succ k =>
      obtain ⟨x, t, e, e2, h1, h2⟩ := first_kid HI.out HS.out
      obtain ⟨hn, hk⟩ := kids_cons (bl (k + 1)) e
      obtain ⟨g, c, ev, hg, cg⟩ := H.out.node.kid hk
      obtain ⟨A, c1, A', c', _, ev2, ⟨y0, y1⟩, _⟩ := H.out.node.open_
      rw [ev] at ev2
      injection ev2 with ev2 ev3 ev4
      subst ev2 ev4
      obtain ⟨n, hn2⟩ : ∃ n, (nbs m).length = n := ⟨_, rfl⟩
      have hn3 : n = t.length + 1 := by rw [← hn2]; exact hn
      have HL := Lib.hid (leaf_any (nb m) (nvp m) (nvk m) (nps m) _ wr H.out.node false (by rw [hn2, hn3]; simp))
      have t2 : (0 : Int) < (n : Int) := by omega
      rw [hn2] at y1
      rw [bl_eq] at cg
      have HX := Lib.hid (H.out.kids x (by rw [e]; simp))
      have HXI := Lib.hid h1
      have HXS := Lib.hid (show 1 ≤ sz (k + 1) x by omega)
      have HXR := Lib.hid (show ∃ t, prs (k + 1) x = r :: t by
        obtain ⟨t2, ht⟩ := HR.out
        rw [prs_eq, e, e2, List.nil_append, List.flatMap_cons] at ht
        cases e3 : prs (k + 1) x with
        | nil => exact absurd e3 (prs_some h1 (by omega))
        | cons a s =>
          rw [e3] at ht
          injection ht with ht _
          exact ⟨s, by rw [ht]⟩)
      clear hk e e2 h1 h2 ev ev3 hn2 hn3 hn HI HS HR
      go_wp2_with (go_at_call 47; (with_reducible refine HL.out.mono ?_); rintro e w1 ⟨rfl, rfl⟩)
      go_roundg k
      case measure => omega
      case rel => exact ⟨x, rfl, HX, HXI, HXS, HXR, HB, HZ⟩
end Go.Proofs.Ytjlfacmmokfleaa.Bt
