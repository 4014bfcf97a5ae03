/- What Put does to a leaf. -/
import Derived.Test.YtjlfacmmokfleaaBtChange
import Derived.Test.YtjlfacmmokfleaaBtFind
import Derived.Test.YtjlfacmmokfleaaBtClone
namespace Go.Proofs.Ytjlfacmmokfleaa.Bt
open Go.RowKit Go.Proofs.Ytjlfacmmokfleaa.Mem Go.Proofs.Ytjlfacmmokfleaa.Right
set_option linter.unusedVariables false

abbrev tTp : TypeId := 23
theorem ne_cel {w : World} {b b' : Nat} {t t' : TypeId} {cs cs' : Array Value} (h : Cel w b t cs) (h' : Cel w b' t' cs') (he : t ≠ t') : b ≠ b' := by
  rintro rfl
  have := h.symm.trans h'
  injection this with this
  injection this with _ e _
  exact he e
/-- A leaf whose pairs have become others. -/
theorem leaf_chg {W w1 w2 : World} {tb : Nat} {top : Value} {n : Int} {p : Kn} {D : Deed p} {x : Pr} {m : Mt 1} {xp' : Value} {ps' : List Pr} (h : Rep W 1 m) (ho : One 1 m) (ht : tb ∉ foot 1 m) (hb : Below W.heap.size W w1) (hT : Cel W tb tT #[top, .int .i64 n])
    (hn : Nod w2 (nb m) xp' (nvk m) ps' []) (hx : xp'.ownBlock = (nvp m).ownBlock ∨ NewRow w1.heap.size xp') (hf : Fr (nb m :: blk (nvp m)) w1 w2) (hy : D.yes (prs 1 m) = true) (hps : ps' = D.go x (nps m)) :
    Cel w2 tb tT #[top, .int .i64 n] ∧ Chg W (w2.setCell ⟨tb, 1, none⟩ (.int .i64 (n + D.by_))) tb top n D x m (mkN (nb m) xp' (nvk m) ps' []) := by
  have hin : ∀ y, y = nb m ∨ y ∈ blk (nvp m) → y ∈ foot 1 m := fun y hy => (in_foot m y).2 (by rcases hy with hy | hy <;> simp [hy])
  have hT2 : Cel w2 tb tT #[top, .int .i64 n] := hf.cel (hT.below hb) (fun e => ht (hin tb (by simpa using e)))
  have hs := Fr.set (i := 1) hT2 (by decide) (.int .i64 (n + D.by_))
  have hN := hn.fr hs (fun e => by simp at e; exact ne_cel hn.1 hT2 (by decide) e) (fun y hy e => by simp at e; subst e; exact own_cel hn.2.1 hT2 (by decide) (mem_blk.1 hy)) (fun y hy e => by simp at e; subst e; exact own_cel hn.2.2.1 hT2 (by decide) (mem_blk.1 hy))
  have hl := D.len (prs 1 m) x hy
  have hle := D.by_le
  rw [prs_zero] at hl
  refine ⟨hT2, ⟨rfl, Rep.mk hN (fun k hk => by rw [nks_mk] at hk; simp at hk), ⟨fun y hy => ?_, fun y hy => ?_⟩, ?_, ?_, ?_, ?_, ?_, hT2.set 1 _⟩⟩
  · rw [ct_eq, ct_eq m, nb_mk, nvp_mk, nvk_mk, nks_mk, nks_zero m]
    have := bc_le (hx.imp id (fun h g hg => Nat.le_trans hb.size (h g hg))) hy
    omega
  · rw [ct_eq, nb_mk, nvp_mk, nvk_mk, nks_mk, cts_nil]
    have h0 := h.far hy
    rw [ct_eq] at h0
    have := bc_le1 xp' y
    omega
  · refine ((Fr.of (F := tb :: foot 1 m) hb).trans (hf.more (fun y hy => ?_))).trans (hs.more (fun y hy => by simp at hy; simp [hy]))
    exact List.mem_cons_of_mem _ (hin y (by simpa using hy))
  · rw [prs_zero, prs_zero, nps_mk, hps]
  · rw [inn_eq]
    exact ⟨fun e => absurd rfl e, fun k hk => by rw [nks_mk] at hk; simp at hk⟩
  · rw [sz_eq, sz_eq, nps_mk, nks_mk, nks_zero m, hps]
    simp; omega
  · rw [sz_eq, sz_eq, nps_mk, nks_mk, nks_zero m, hps]
    simp; omega
/-- What an insertion leaves of a leaf. -/
def PutR (w0 w1 : World) (m : Mt 1) (p : Pr) (wx : World) : Prop :=
  ∃ r xp', r.k = p.k ∧ Fresh w0.heap.size r ∧ Nod wx (nb m) xp' (nvk m) (lo p.k (nps m) ++ r :: hi p.k (nps m)) [] ∧ (xp'.ownBlock = (nvp m).ownBlock ∨ NewRow w1.heap.size xp') ∧ Fr (nb m :: blk (nvp m)) w1 wx
theorem lo_take (p : Kn) (L : List Pr) : L.take (lo p L).length = lo p L := by
  have h := List.take_left (l₁ := lo p L) (l₂ := hi p L)
  rw [lo_hi] at h
  exact h
theorem put_ins (w0 w1 w2 : World) (m : Mt 1) (p : Pr) (ln k : Nat) (A A2 : Option Addr) (c c2 : Nat) (hnod : Nod w1 (nb m) (nvp m) (nvk m) (nps m) (nbs m)) (hnb : nbs m = []) (hev : nvp m = .slice A ln c) (hln : (nps m).length = ln) (hk : (lo p.k (nps m)).length = k) (hl : ln ≤ 8) (hb : Below w1.heap.size w1 w2) (h0 : w0.heap.size ≤ w1.heap.size)
    (hkey : Key w2 ⟨A2, c2, p.key, p.num⟩) (hfr : Fresh w1.heap.size ⟨A2, c2, p.key, p.num⟩) :
    Calls Try.prog 42 #[.slice A ln c, .int .i64 (k : Int), .slice (some ⟨w2.heap.size, 0, none⟩) 1 1] (w2.alloc (.cells #[.slice A2 p.key.length c2, .int .i64 p.num] tP)) fun e w' =>
      ∃ A3 c3, e = .returned (.slice A3 (ln + 1) c3) ∧ Cel w' (nb m) tN #[nvp m, nvk m] ∧ PutR w0 w1 m p (w'.setCell ⟨nb m, 0, none⟩ (.slice A3 (ln + 1) c3)) := by
  have hal := al (Below.refl w2.heap.size w2) (.cells #[.slice A2 p.key.length c2, .int .i64 p.num] tP)
  have hb2 := Mem.on hb hal
  have hn2 := hnod.below hb2
  have hrow : (w2.alloc (.cells #[.slice A2 p.key.length c2, .int .i64 p.num] tP)).ownsRow 0 tP 2 (.slice A ln c) ln (cellsP (nps m)) := by
    have := hn2.2.1
    rw [hev, hln] at this
    exact this
  have hkl : k ≤ ln := by
    have := congrArg List.length (lo_hi p.k (nps m))
    rw [List.length_append] at this
    omega
  refine (ins_any_p ln k w2.heap.size (.slice A ln c) (cellsP (nps m)) (cells2 ⟨A2, c2, p.key, p.num⟩) (cellsP (lo p.k (nps m) ++ ⟨A2, c2, p.key, p.num⟩ :: hi p.k (nps m))) _ hrow (Cel.new w2 tP #[.slice A2 p.key.length c2, .int .i64 p.num] rfl) ?_ rfl (cellsP_one [⟨A2, c2, p.key, p.num⟩]) (cellsP_one _) (by omega) hkl ?_).mono ?_
  · intro e
    have h1 := own_lt hnod.2.1 w2.heap.size (mem_blk.2 (by rw [hev]; exact e))
    have := hb.size
    omega
  · rw [cellsP_take, cellsP_drop, ← hk, lo_take, ← hi_drop]
    simp [cellsP]
  rintro e w' ⟨v', rfl, h1, h2, h3⟩
  obtain ⟨A3, c3, rfl, _⟩ := form_own h1
  have hc := grown_cel hn2.1 h2 (by rw [← hev]; exact own_cel hn2.2.1 hn2.1 (by decide))
  have hfb : Fr (blk (nvp m)) w1 w' := by
    have h4 := Fr.row hrow (by decide) h2
    rw [← hev] at h4
    exact (Fr.of hb2).trans h4
  have hlen : (lo p.k (nps m) ++ (⟨A2, c2, p.key, p.num⟩ : Pr) :: hi p.k (nps m)).length = ln + 1 := by
    have := congrArg List.length (lo_hi p.k (nps m))
    rw [List.length_append] at this
    rw [List.length_append, List.length_cons]
    omega
  have hf2 : Fr (blk (nvp m)) w2 w' := by
    have h4 := Fr.row hrow (by decide) h2
    rw [← hev] at h4
    exact (Fr.of hal).trans h4
  -- the new pair's key is of the new world: so all pairs' keys are taken there
  have hc' : Cel w' (nb m) tN #[nvp m, nvk m] := hc
  have hs : Fr [nb m] w' (w'.setCell ⟨nb m, 0, none⟩ (.slice A3 (ln + 1) c3)) := Fr.set hc' (by decide) _
  refine ⟨A3, c3, rfl, hc', ⟨A2, c2, p.key, p.num⟩, .slice A3 (ln + 1) c3, rfl, fun b o e => Nat.le_trans h0 (hfr b o e), ⟨hc'.set 0 _, ?_, ?_, fun r hr => ?_⟩, ?_, ?_⟩
  · rw [hlen]; exact set_own h1 hc' (by decide)
  · have hk2 := hfb.own hnod.2.2.1 (fun y hy e => own_own hnod.2.2.1 hnod.2.1 (by decide) y (mem_blk.1 hy) (mem_blk.1 e))
    rw [hnb] at hk2
    exact set_own hk2 hc' (by decide)
  · rcases List.mem_append.1 hr with hr | hr
    · exact hs.key (hfb.key (hnod.2.2.2 r (by rw [← lo_hi p.k (nps m)]; simp [hr])))
    · rcases List.mem_cons.1 hr with rfl | hr
      · exact hs.key (hf2.key hkey)
      · exact hs.key (hfb.key (hnod.2.2.2 r (by rw [← lo_hi p.k (nps m)]; simp [hr])))
  · rcases h3 with e | e
    · left; rw [e, hev]
    · right
      intro g hg
      have h5 := e g hg
      have h6 := hb2.size
      omega
  · exact (hfb.more (fun y hy => by simp [hy])).trans (hs.more (fun y hy => by simp at hy; simp [hy]))
set_option maxHeartbeats 4000000 in
theorem put_do (w0 : World) (tb : Nat) (top : Value) (n : Int) (pb tv : Nat) (p : Pr) (hpb : Cel w0 pb tP #[.slice p.a p.key.length p.c, .int .i64 p.num]) (htv : Cel w0 tv tTp #[.pointer (some ⟨tb, 0, none⟩)]) (hp : KeyA w0 p) (hp2 : p.a = none → p.c = 0) (hp3 : p.key.length ≤ 1000) (hn : 0 ≤ n) (hn2 : n ≤ 1000000) :
    DoC w0 tb top n 41 (.pointer (some ⟨pb, 0, none⟩)) (.pointer (some ⟨tv, 0, none⟩)) (putD p.k) := by
  intro W m q hW h ho ht hold hT hS hl hq
  have hnod := h.node
  have hq' : (!has p.k (nps m)) = q := by rw [← prs_zero]; exact hq
  have HF := Lib.hid (find_any (nb m) (nvp m) (nvk m) (nps m) (nbs m) p W hnod (hp.below hW) hS (by omega) (lo p.k (nps m)).length (has p.k (nps m)) rfl rfl)
  have b0 := (hpb.below hW).at_ 0
  have b1 := (hpb.below hW).at_ 1
  cases q with
  | false =>
    have hh : has p.k (nps m) = true := by simpa using hq'
    rw [hh] at HF
    clear h ho ht hold hT hS hq hq' hnod hpb htv hp hW
    go_enter Try.func41, Try.ntmps41
    go_wp2_with (go_at_call 38; (with_reducible refine HF.out.mono ?_); rintro e w1 ⟨rfl, hb1⟩; have HB1 := Lib.hid hb1; clear hb1)
    go_ret
    exact ⟨rfl, fun _ => HB1.out, fun e => by cases e⟩
  | true =>
    have hh : has p.k (nps m) = false := by simpa using hq'
    rw [hh] at HF
    obtain ⟨k, hk⟩ : ∃ k, (lo p.k (nps m)).length = k := ⟨_, rfl⟩
    rw [hk] at HF
    have HPB := Lib.hid (hpb.below hW)
    have HTV := Lib.hid (htv.below hW)
    have HP := Lib.hid (hp.below hW)
    have HW := Lib.hid hW
    have HN := Lib.hid hnod
    have H := Lib.hid h
    have HO := Lib.hid ho
    have HT := Lib.hid ht
    have HTT := Lib.hid hT
    have HK := Lib.hid hk
    have HY := Lib.hid hq
    have HL := Lib.hid hl
    have HNB := Lib.hid (nbs_zero m)
    clear h ho ht hold hT hS hq hq' hnod hpb htv hp hW hk hh hl
    go_enter Try.func41, Try.ntmps41
    go_upto_region 3 with (go_at_call 38; (with_reducible refine HF.out.mono ?_); rintro e w1 ⟨rfl, hb1⟩; have HB1 := Lib.hid hb1; clear hb1)
    clear b0 b1 HF
    have hn1 := HN.out.below HB1.out
    obtain ⟨A, c, A', c', ev, _, ⟨x0, _⟩, ⟨f0, _⟩, _⟩ := hn1.open_
    have b0 := (HPB.out.below HB1.out).at_ 0
    have b1 := (HPB.out.below HB1.out).at_ 1
    have HN1 := Lib.hid hn1
    have HEV := Lib.hid ev
    have HBX := Lib.hid (show Below w1.heap.size w1 w1.drew from (Below.refl _ _).drew)
    obtain ⟨ln, hln⟩ : ∃ ln, (nps m).length = ln := ⟨_, rfl⟩
    rw [hln] at x0
    have HLN := Lib.hid hln
    have HEV2 := Lib.hid (show nvp m = .slice A ln c by rw [ev, hln])
    have HL8 := Lib.hid (show ln ≤ 8 by rw [← hln]; exact HL.out)
    have HSZ := Lib.hid (show w0.heap.size ≤ w1.heap.size from Nat.le_trans HW.out.size HB1.out.size)
    have HCL := Lib.hid (clone_any p.a p.key.length p.c p.key p.num w1.drew ((HP.out.below HB1.out).below HBX.out) hp2 hp3)
    clear hn1 ev hln
    go_cut [] from 15 to 26 (fun wx => Hid (PutR w0 w1 m p wx))
    case first =>
      go_region_law (first | (go_simp; go_at_call 34; (with_reducible refine HCL.out.mono ?_); rintro e w2 ⟨A2, c2, rfl, hk2, hf2, hb2⟩; have HK2 := Lib.hid hk2; have HF2 := Lib.hid (show Fresh w1.heap.size _ from hf2); have HB2 := Lib.hid (Mem.on HBX.out hb2); have hx2 := (HN1.out.1.below HB2.out); have x02 : w2.cell? ⟨nb m, 0, none⟩ = some (.slice A ln c) := (by rw [hx2.at_ 0, ← HEV2.out]; rfl); have x04 : ∀ o : Obj, (w2.alloc o).cell? ⟨nb m, 0, none⟩ = some (.slice A ln c) := (fun o => by rw [(hx2.alloc o).at_ 0, ← HEV2.out]; rfl); clear hx2 hk2 hf2 hb2) | (go_simp; go_at_call 42; (with_reducible refine (put_ins w0 w1 w2 m p ln k A A2 c c2 HN1.out HNB.out HEV2.out HLN.out HK.out HL8.out HB2.out HSZ.out HK2.out HF2.out).mono ?_); rintro e w3 ⟨A3, c3, rfl, hc3, hp3⟩; have x03 := hc3.at_ 0; have f03 := hc3.open_ 0; have HP3 := Lib.hid hp3; clear hc3 hp3))
      all_goals (go_wp2_with fail)
      all_goals go_meet
      all_goals exact HP3
    case rest =>
      obtain ⟨r, xp', e1, e2, hn2, hx2, hf2⟩ := hcut.out
      have hcg := leaf_chg (D := putD p.k) (x := r) (n := n) (ps' := lo p.k (nps m) ++ r :: hi p.k (nps m)) H.out HO.out HT.out HB1.out HTT.out hn2 hx2 hf2 HY.out rfl
      have hin : ∀ y, y ∈ nb m :: blk (nvp m) → y ∈ foot 1 m := fun y hy => (in_foot m y).2 (by rcases List.mem_cons.1 hy with hy | hy <;> simp [hy])
      have htv2 : Cel wc tv tTp #[.pointer (some ⟨tb, 0, none⟩)] := hf2.cel (HTV.out.below HB1.out) (fun hm => by
        rcases List.mem_cons.1 hm with hm | hm
        · exact ne_cel (HTV.out.below HB1.out) HN1.out.1 (by decide) hm
        · exact own_cel HN1.out.2.1 (HTV.out.below HB1.out) (by decide) (mem_blk.1 hm))
      have v0 := htv2.at_ 0
      have z1 := hcg.1.at_ 1
      have g1 := hcg.1.open_ 1
      have t1 : IntKind.i64.wrap (n + 1) = n + 1 := by rw [IntKind.wrap_i64]; omega
      have HCG := Lib.hid hcg.2
      have HE1 := Lib.hid e1
      have HE2 := Lib.hid e2
      clear x0 f0 b0 b1 hcut hcg htv2 hin hn2 hx2 hf2 e1 e2
      go_wp2
      go_ret
      exact ⟨rfl, (fun e => by cases e), fun _ => ⟨r, _, HCG.out, HE1.out, HE2.out⟩⟩
end Go.Proofs.Ytjlfacmmokfleaa.Bt
