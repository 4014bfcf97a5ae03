/- What Drop does to a leaf. -/
import Derived.Test.YtjlfacmmokfleaaBtDo
namespace Go.Proofs.Ytjlfacmmokfleaa.Bt
open Go.RowKit Go.Proofs.Ytjlfacmmokfleaa.Mem Go.Proofs.Ytjlfacmmokfleaa.Right
set_option linter.unusedVariables false

set_option maxHeartbeats 4000000 in
theorem drop_do (w0 : World) (tb : Nat) (top : Value) (n : Int) (pb tv : Nat) (p : Pr) (hpb : Cel w0 pb tP #[.slice p.a p.key.length p.c, .int .i64 p.num]) (htv : Cel w0 tv tTp #[.pointer (some ⟨tb, 0, none⟩)]) (hp : KeyA w0 p) (hn : 0 ≤ n) (hn2 : n ≤ 1000000) :
    DoC w0 tb top n 37 (.pointer (some ⟨pb, 0, none⟩)) (.pointer (some ⟨tv, 0, none⟩)) (dropD p.k) := by
  intro W m q hW h ho ht hold hT hS hl hq
  have hnod := h.node
  have hq' : has p.k (nps m) = q := by rw [← prs_zero]; exact hq
  have HF := Lib.hid (find_any (nb m) (nvp m) (nvk m) (nps m) (nbs m) p W hnod (hp.below hW) hS (by omega) (lo p.k (nps m)).length (has p.k (nps m)) rfl rfl)
  have b0 := (hpb.below hW).at_ 0
  have b1 := (hpb.below hW).at_ 1
  rw [hq'] at HF
  cases q with
  | false =>
    clear h ho ht hold hT hS hq hq' hnod hpb htv hp hW
    go_enter Try.func37, Try.ntmps37
    go_wp2_with (go_at_call 38; (with_reducible refine HF.out.mono ?_); rintro e w1 ⟨rfl, hb1⟩; have HB1 := Lib.hid hb1; clear hb1)
    go_ret
    exact ⟨rfl, fun _ => HB1.out, fun e => by cases e⟩
  | true =>
    obtain ⟨k, hk⟩ : ∃ k, (lo p.k (nps m)).length = k := ⟨_, rfl⟩
    rw [hk] at HF
    obtain ⟨b, t, hbt⟩ := has_cons hq'
    have hlen := congrArg List.length (lo_hi p.k (nps m))
    rw [List.length_append, hk, hbt, List.length_cons] at hlen
    obtain ⟨ln, hln⟩ : ∃ ln, (nps m).length = ln := ⟨_, rfl⟩
    have HTV := Lib.hid (htv.below hW)
    have HN := Lib.hid hnod
    have H := Lib.hid h
    have HO := Lib.hid ho
    have HT := Lib.hid ht
    have HTT := Lib.hid hT
    have HK := Lib.hid hk
    have HY := Lib.hid hq
    have HLN := Lib.hid hln
    have HNB := Lib.hid (nbs_zero m)
    have hkl : k < ln := by omega
    have hl8 : ln ≤ 8 := by omega
    have HBT := Lib.hid hbt
    clear h ho ht hold hT hS hq hq' hnod hpb htv hp hW hk hl hln hlen hbt
    obtain ⟨k1, hk1⟩ : ∃ k1, k + 1 = k1 := ⟨_, rfl⟩
    have t2 : (k : Int) + 1 = (k1 : Int) := by omega
    have t3 : IntKind.i64.wrap (k1 : Int) = (k1 : Int) := by rw [IntKind.wrap_i64]; omega
    have t5 : IntKind.i64.wrap (n - 1) = n - 1 := by rw [IntKind.wrap_i64]; omega
    go_enter Try.func37, Try.ntmps37
    go_upto_region 3 with (go_at_call 38; (with_reducible refine HF.out.mono ?_); rintro e w1 ⟨rfl, hb1⟩; have HB1 := Lib.hid hb1; clear hb1)
    clear b0 b1 HF
    have hn1 := HN.out.below HB1.out
    obtain ⟨A, c, A', c', ev, _, ⟨x0, _⟩, ⟨f0, _⟩, _⟩ := hn1.open_
    rw [HLN.out] at ev x0
    have hrow := hn1.2.1
    rw [HLN.out] at hrow
    obtain ⟨g, c2, e2, _, hgl⟩ := hrow.form (by omega)
    rw [ev] at e2
    injection e2 with e2 _ e3
    subst e2 e3
    obtain ⟨r, hr⟩ : ∃ r, k + (ln - k1) = r := ⟨_, rfl⟩
    rw [ev] at hrow
    have HD := Lib.hid (del_p g ln c k k1 r (cellsP (nps m)) w1 hrow (cellsP_one _) (by omega) (by omega) (by omega) hr)
    have HEV := Lib.hid ev
    have HN1 := Lib.hid hn1
    have HROW := Lib.hid hrow
    have HNE := Lib.hid (show (some g : Option Nat) ≠ some (nb m) from own_cel hrow hn1.1 (by decide))
    have HR := Lib.hid hr
    have HK1 := Lib.hid hk1
    clear hn1 ev hrow hr hk1
    go_upto_region 4 with (go_at_call 39; (with_reducible refine HD.out.mono ?_); rintro e w5 ⟨rfl, hd5, hg5⟩; have hc5 := grown_cel HN1.out.1 hg5 HNE.out; have x05 := hc5.at_ 0; have f05 := hc5.open_ 0; have HD5 := Lib.hid hd5; have HG5 := Lib.hid hg5; clear hc5 hd5 hg5)
    have hps : (cellsP (nps m)).take (k * 2) ++ (cellsP (nps m)).drop (k1 * 2) = cellsP (lo p.k (nps m) ++ (hi p.k (nps m)).tail) := by
      rw [cellsP_take, cellsP_drop, cellsP_app]
      congr 2
      · rw [← HK.out, lo_take]
      · rw [hi_drop, HK.out, List.tail_drop, HK1.out]
    have hlen2 : (lo p.k (nps m) ++ (hi p.k (nps m)).tail).length = r := by
      have h1 := congrArg List.length (lo_hi p.k (nps m))
      rw [List.length_append, HLN.out] at h1
      rw [List.length_append, List.length_tail, HK.out, ← HR.out]
      have h2 := HK.out
      have h3 := HK1.out
      omega
    have ho : w5.ownsRow 0 tP 2 (.slice (some ⟨g, 0, none⟩) r c) (lo p.k (nps m) ++ (hi p.k (nps m)).tail).length (cellsP (lo p.k (nps m) ++ (hi p.k (nps m)).tail)) := by
      have := HD5.out
      rw [hps] at this
      rw [hlen2]; exact this
    have hvb : (nvp m).ownBlock = some g := by rw [HEV.out]; rfl
    have hf5 : Fr (blk (nvp m)) w1 w5 := Fr.row HN1.out.2.1 (by decide) (by rw [hvb]; exact HG5.out)
    obtain ⟨j1, j2⟩ := turn_p HN1.out ho hf5 (fun r hr => HN1.out.2.2.2 r (by
      rw [← lo_hi p.k (nps m)]
      rcases List.mem_append.1 hr with hr | hr
      · simp [hr]
      · simp [List.mem_of_mem_tail hr]))
    rw [HNB.out] at j1
    have hcg := leaf_chg (D := dropD p.k) (x := ⟨none, 0, p.key, p.num⟩) (n := n) (ps' := lo p.k (nps m) ++ (hi p.k (nps m)).tail) H.out HO.out HT.out HB1.out HTT.out j1 (.inl hvb.symm) j2 HY.out rfl
    have htv2 := j2.cel (HTV.out.below HB1.out) (fun hm => by
      rcases List.mem_cons.1 hm with hm | hm
      · exact ne_cel (HTV.out.below HB1.out) HN1.out.1 (by decide) hm
      · exact own_cel HN1.out.2.1 (HTV.out.below HB1.out) (by decide) (mem_blk.1 hm))
    generalize w5.setCell ⟨nb m, 0, none⟩ (.slice (some ⟨g, 0, none⟩) r c) = wc at hcg htv2 ⊢
    have v0 := htv2.at_ 0
    have z1 := hcg.1.at_ 1
    have g1 := hcg.1.open_ 1
    have HCG := hcg.2
    rw [show n + (dropD p.k).by_ = n - 1 by show n + -1 = n - 1; omega] at HCG
    have HCG := Lib.hid HCG
    clear x0 f0 x05 f05 hcg htv2 j1 j2 ho hf5 hps hvb
    go_wp2
    go_ret
    exact ⟨rfl, (fun e => by cases e), fun _ => ⟨_, _, HCG.out, rfl, fun b o e => by cases e⟩⟩
end Go.Proofs.Ytjlfacmmokfleaa.Bt
