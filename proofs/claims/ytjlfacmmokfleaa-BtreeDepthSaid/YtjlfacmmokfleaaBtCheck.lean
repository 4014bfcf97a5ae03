/- Check asks of a tree whether it is as it must be: it is. -/
import Derived.Test.YtjlfacmmokfleaaBtSound
import Derived.Test.YtjlfacmmokfleaaBtUser
namespace Go.Proofs.Ytjlfacmmokfleaa.Bt
open Go.RowKit Go.Proofs.Ytjlfacmmokfleaa.Mem Go.Proofs.Ytjlfacmmokfleaa.Right
set_option linter.unusedVariables false

set_option maxHeartbeats 4000000 in
theorem check_t (w : World) (n₀ tb n : Nat) (X : List Nat) (L : List Pr) (h : BT w n₀ tb X L) (hn : L.length = n) (hl : n ≤ 1000) :
    Calls Try.prog 12 #[.pointer (some ⟨tb, 0, none⟩)] w fun e w' => e = .returned (.bool true) ∧ Below w.heap.size w w' := by
  obtain ⟨d, m, h1, h2, _⟩ := h
  have hdp := tr_deep h1
  have hd : d ≤ 1000 := by
    by_cases e : d = 0
    · omega
    · have h3 := hdp.1 e
      have h4 : d < 4 ^ d := Nat.lt_pow_self (by decide)
      rw [h2, hn] at h3
      omega
  obtain ⟨s, hs⟩ : ∃ s, sz (d + 1) m = s := ⟨_, rfl⟩
  obtain ⟨fe, hfe⟩ : ∃ fe, (if (nbs m).length = 0 then 0 else 2) = fe := ⟨_, rfl⟩
  have hfs : fe ≤ s := by
    have h3 := sz_eq m
    rw [nbs_len] at hfe
    split at hfe
    · omega
    · rename_i h0
      by_cases e : d = 0
      · subst e
        rw [nks_zero m] at h0; simp at h0
      · have := h1.two e; omega
  have y0 : w.cell? ⟨tb, 0, none⟩ = some (.pointer (some ⟨nb m, 0, none⟩)) := h1.cel.at_ 0
  have HM := Lib.hid (made_any tb (nb m) w y0)
  have H := Lib.hid h1
  obtain ⟨dn, hdn⟩ : ∃ dn, d + 1 = dn := ⟨_, rfl⟩
  have hb1 := al (al (Below.refl w.heap.size w) (.cells #[.int .i64 0] 3)) (.cells #[.slice none 0 0, .int .i64 0] tP)
  have c0 : Ck w w.heap.size (w.heap.size + 1) 0 ⟨none, 0, [], 0⟩ ((w.alloc (.cells #[.int .i64 0] 3)).alloc (.cells #[.slice none 0 0, .int .i64 0] tP)) :=
    ⟨hb1, (Cel.new w _ _ rfl).alloc _, Cel.new _ tP _ (by simp), by omega, by omega, fun e => by omega⟩
  have HC0 := Lib.hid c0
  have HH := Lib.hid (show prs (d + 1) m = L ∧ L.length = n ∧ n ≤ 1000 ∧ sz (d + 1) m = s ∧ (if (nbs m).length = 0 then 0 else 2) = fe ∧ fe ≤ s ∧ d + 1 = dn ∧ d ≤ 1000 from ⟨h2, hn, hl, hs, hfe, hfs, hdn, hd⟩)
  clear h1 h2 hn hl hdp hs hfe hfs hb1 c0 hdn hd
  go_enter Try.func12, Try.ntmps12
  go_upto_region 6 with (go_at_call 24; (with_reducible refine HM.out.mono ?_); rintro e w1 ⟨rfl, rfl⟩)
  clear y0 HM
  have hck := HC0.out
  have hcw := (show Ck w1 w1.heap.size (w1.heap.size + 1) 0 ⟨none, 0, [], 0⟩ ((w1.alloc (.cells #[.int .i64 0] 3)).alloc (.cells #[.slice none 0 0, .int .i64 0] tP)) from hck)
  have hW : Below w1.heap.size w1 ((w1.alloc (.cells #[.int .i64 0] 3)).alloc (.cells #[.slice none 0 0, .int .i64 0] tP)) := hck.old
  obtain ⟨W, hWe⟩ : ∃ W, (w1.alloc (.cells #[.int .i64 0] 3)).alloc (.cells #[.slice none 0 0, .int .i64 0] tP) = W := ⟨_, rfl⟩
  rw [hWe] at hcw hW ⊢
  clear hck HC0 hWe
  obtain ⟨nv, hnv⟩ : ∃ nv, w1.heap.size = nv := ⟨_, rfl⟩
  have HNV := Lib.hid hnv
  rw [hnv] at hcw ⊢
  have ht : TR W tb d m := H.out.below hW
  obtain ⟨g1, g2, g3, g4, g5, g6, g7, g8⟩ := HH.out
  have y0 : W.cell? ⟨tb, 0, none⟩ = some (.pointer (some ⟨nb m, 0, none⟩)) := ht.cel.at_ 0
  have HFE := Lib.hid (show ∀ W', Below W.heap.size W W' → Calls Try.prog 28 #[.pointer (some ⟨nb m, 0, none⟩)] W' fun e w' => e = .returned (.int .i64 fe) ∧ w' = W' from fun W' hW' => fewest_any (nb m) (nvp m) (nvk m) (nps m) (nbs m) W' (Rep.below hW' ht.rep).node fe g5)
  have HDE := Lib.hid (show ∀ W', Below W.heap.size W W' → Calls Try.prog 29 #[.pointer (some ⟨nb m, 0, none⟩)] W' fun e w' => e = .returned (.int .i64 dn) ∧ w' = W' from fun W' hW' => by
    have := depth_any d m W' (Rep.below hW' ht.rep) ht.inn (fun e => by have := ht.two e; omega) g8
    rw [show (dn : Int) = (d : Int) + 1 by omega]
    exact this)
  have HSO := Lib.hid (show ∀ W', Below W.heap.size W W' → Calls Try.prog 27 #[.pointer (some ⟨nb m, 0, none⟩), .int .i64 (fe : Int), .int .i64 (dn : Int), .func (.func 25) #[] #[.pointer (some ⟨nv, 0, none⟩), .pointer (some ⟨nv + 1, 0, none⟩)]] W' fun e w' => e = .returned (.bool true) ∧ (w'.cell? ⟨nv, 0, none⟩ = some (.int .i64 n) ∧ w'.cell? ⟨tb, 0, none⟩ = some (.pointer (some ⟨nb m, 0, none⟩)) ∧ w'.cell? ⟨tb, 1, none⟩ = some (.int .i64 n)) ∧ Hid (Below w1.heap.size w1 w') from fun W' hW' => by
    have k0 := hcw.below hW'
    have ht' := H.out.below k0.old
    refine (sound_any w1 nv (nv + 1) d m W' 0 s ⟨none, 0, [], 0⟩ fe dn k0 H.out.rep ht'.inn (fun e => by have := ht.two e; omega) g4 (by omega) (by have := ht.le; omega) ⟨ht.sorted, fun e => by omega⟩ (by rw [g1, g2]; omega) g7.symm (by omega)).mono ?_
    rintro e w2 ⟨rfl, k1⟩
    have ht2 := H.out.below k1.old
    have z1 := ht2.cel.at_ 1
    have z2 := k1.nv_.at_ 0
    rw [Nat.zero_add, g1, g2] at z2
    rw [g1, g2] at z1
    exact ⟨rfl, ⟨z2, ht2.cel.at_ 0, z1⟩, Lib.hid k1.old⟩)
  clear g1 g2 g3 g4 g5 g6 g7 g8 hnv ht hW hcw HNV HH H
  have hb0 := Below.refl W.heap.size W
  have hb1 := (Below.refl W.heap.size W).drew
  go_region_with (first | (go_at_call 28; (refine (HFE.out _ (by first | assumption)).mono ?_); rintro e w2 ⟨rfl, rfl⟩) | (go_at_call 29; (refine (HDE.out _ (by first | assumption)).mono ?_); rintro e w2 ⟨rfl, rfl⟩) | (go_at_call 27; (refine (HSO.out _ (by first | assumption)).mono ?_); rintro e w2 ⟨rfl, ⟨z0, z1, z2⟩, HB2⟩))
  all_goals (clear hb0 hb1 HSO HDE HFE y0; first | (go_wp2; go_ret; exact ⟨by first | rfl | simp, HB2.out⟩) | (go_ret; exact ⟨by first | rfl | simp, HB2.out⟩) | trace_state)
end Go.Proofs.Ytjlfacmmokfleaa.Bt
