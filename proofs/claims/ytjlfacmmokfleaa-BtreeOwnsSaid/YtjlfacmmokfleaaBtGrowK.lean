/- slices.Insert where there is no room: of one node. -/
import Derived.Test.YtjlfacmmokfleaaBtIns
namespace Go.Proofs.Ytjlfacmmokfleaa.Bt
open Go.RowKit Go.Proofs.Ytjlfacmmokfleaa.Mem Go.Proofs.Ytjlfacmmokfleaa.Right
set_option linter.unusedVariables false

theorem grow_k (n1 i g c q : Nat) (us : List Value) (w : World) (n : Nat) (h : w.ownsRow 0 tK 1 (.slice (some ⟨g, 0, none⟩) n c) n us) (hi : i ≤ n) (hq : i + q = n1) (hq0 : 0 < q) (hc : c < n1) (hn : n1 ≤ 2000) :
    ∃ w2 cap L, (∀ ty, (Builtin.append_ #[50, 3] ty #[.slice (some ⟨g, 0, none⟩) i c, .int .i64 (q : Int)]).run Try.prog w = .ok (.slice (some ⟨w.heap.size, 0, none⟩) n1 cap) w2) ∧ Cel w2 w.heap.size tK (List.toArray L) ∧ Below w.heap.size w w2 ∧ L.take (i * 1) = us.take (i * 1) ∧ L.length = cap * 1 ∧ n1 ≤ cap ∧ cap ≤ maxLen := by
  have hw0 : w.drew.ownsRow 0 tK 1 (.slice (some ⟨g, 0, none⟩) i c) i (us.take (i * 1)) := own_take h i hi
  have hcell := fun j u (hu : (us.take (i * 1))[j]? = some u) => (cell_own hw0 hu)
  obtain ⟨inf, z, ht, hinf, hz, hz1, hz2, hzc, hk⟩ := elemK
  have hl : (us.take (i * 1)).length = i * 1 := hw0.1
  have hold : (Builtin.firstCells inf.size i (.slice (some ⟨g, 0, none⟩) i c)).run Try.prog w.drew = .ok (us.take (i * 1)).toArray w.drew := by
    have := run_loadCells_list (P := Try.prog) w.drew ⟨g, 0, none⟩ (us.take (i * 1)) (fun j u hu => by
      obtain ⟨g2, c2, ev, _, hc2, _⟩ := hcell j u hu
      injection ev with e1 _ _
      injection e1 with e1
      injection e1 with e1
      subst e1
      have e2 : (⟨g, 0, none⟩ : Addr).add j = ⟨g, j, none⟩ := by unfold Addr.add; split <;> simp_all
      rw [e2]; exact hc2)
    rw [hl] at this
    simpa [Builtin.firstCells, hz1] using this
  have hrun := fun ty => Lib.run_append_grow_zeros (P := Try.prog) w 50 3 ty tK inf z .i64 .i64 ht Try.underlying3 hinf hz (some ⟨g, 0, none⟩) i c (us.take (i * 1)) hold q hq0 (by rw [hz1]; exact hk) (by omega) (by omega) (by rw [hz2]; omega) (growslice_fits (by omega) (by rw [hz2]; omega))
  rw [hq] at hrun
  have hge := grownCap_ge w n1 c tK
  refine ⟨_, grownCap w n1 c tK, us.take (i * 1) ++ (Builtin.zeroCells z.cells q).toList ++ (Builtin.zeroCells z.cells (grownCap w n1 c tK - n1)).toList, fun ty => (hrun ty), ?_, al (Below.refl _ _).drew _, ?_, ?_, hge, grownCap_le_maxLen _ _ _ _ (by unfold maxLen; omega)⟩
  · have e : ((us.take (i * 1)).toArray ++ Builtin.zeroCells z.cells q ++ Builtin.zeroCells z.cells (grownCap w n1 c tK - n1)) = (us.take (i * 1) ++ (Builtin.zeroCells z.cells q).toList ++ (Builtin.zeroCells z.cells (grownCap w n1 c tK - n1)).toList).toArray := by simp
    rw [e]
    exact heap_alloc_new w.drew _
  · rw [List.append_assoc]
    exact List.take_left' hl
  · rw [List.length_append, List.length_append, hl, zero_len, zero_len, hzc]
    omega
set_option maxRecDepth 100000 in
set_option maxHeartbeats 4000000 in
/-- In between, where there is no room. -/
theorem ins_grow_k (n i g c gx : Nat) (us xs : List Value) (w : World) (h : w.ownsRow 0 tK 1 (.slice (some ⟨g, 0, none⟩) n c) n us) (hx : Cel w gx tK xs.toArray) (hxl : xs.length = 1) (h1 : ∀ u ∈ xs, u.oneCell' = true) (h2 : ∀ u ∈ us, u.oneCell' = true) (hn : n ≤ 1000) (hi : i < n) (hroom : c < n + 1) (Z : List Value) (hZ : us.take (i * 1) ++ xs ++ us.drop (i * 1) = Z) :
    Calls Try.prog 64 #[.slice (some ⟨g, 0, none⟩) n c, .int .i64 (i : Int), .slice (some ⟨gx, 0, none⟩) 1 1] w (Ins w tK 1 (n + 1) (.slice (some ⟨g, 0, none⟩) n c) Z) := by
  have HZ := Lib.hid hZ
  clear hZ
  have hus := h.1
  obtain ⟨A0, c0, ev, hnc, hcm, _⟩ := form_own h
  injection ev with e1 _ ev
  subst e1 ev
  obtain ⟨q, hq⟩ : ∃ q, n + 1 - i = q := ⟨_, rfl⟩
  obtain ⟨w2, cap, L, hrun, hcel, hb2, hLt, hLl, hcap1, hcap2⟩ := grow_k (n + 1) i g c q us w n h (by omega) (by omega) (by omega) hroom (by omega)
  have hcap3 : cap ≤ 9223372036854775807 := by unfold maxLen at hcap2; omega
  have hgl : g < w.heap.size := by
    rcases h.2 with ⟨e, _⟩ | ⟨g', c', cur, e, _, hh, _⟩
    · cases e
    · injection e with e1 _ _
      injection e1 with e1
      injection e1 with e1
      subst e1
      exact blk_lt hh
  obtain ⟨o1, ho1, hs1⟩ := slice_l elemK g n c i (by omega) hnc
  have hs2 := slice_h elemK (some ⟨g, 0, none⟩) n c i (by omega)
  have HG := Lib.hid (show w.heap.size ≤ w.heap.size from Nat.le_refl _)
  obtain ⟨G, hG⟩ : ∃ G, w.heap.size = G := ⟨_, rfl⟩
  have HGE := Lib.hid hG
  rw [hG] at hrun hcel
  obtain ⟨o3, ho3, hs3⟩ := slice_l elemK G (n + 1) cap (i + 1) (by omega) hcap1
  obtain ⟨o4, ho4, hs4⟩ := slice_l elemK G (n + 1) cap i (by omega) hcap1
  have t0 : ((i : Int) == (n : Int)) = false := by simp; omega
  have t1 : IntKind.i64.wrap ((n : Int) + 1) = ((n + 1 : Nat) : Int) := by rw [IntKind.wrap_i64]; omega
  have t2 : IntKind.i64.wrap ((i : Int) + 1) = ((i + 1 : Nat) : Int) := by rw [IntKind.wrap_i64]; omega
  have t3 : (n : Int) + 1 = ((n + 1 : Nat) : Int) := by omega
  have t4 : (i : Int) + 1 = ((i + 1 : Nat) : Int) := by omega
  have t5 : IntKind.i64.wrap ((i + 1 : Nat) : Int) = ((i + 1 : Nat) : Int) := by rw [IntKind.wrap_i64]; omega
  have t6 : IntKind.i64.wrap ((n + 1 : Nat) : Int) = ((n + 1 : Nat) : Int) := by rw [IntKind.wrap_i64]; omega
  have t7 : ((n + 1 : Nat) : Int) - (i : Int) = (q : Int) := by omega
  have t8 : IntKind.i64.wrap (q : Int) = (q : Int) := by rw [IntKind.wrap_i64]; omega
  have HO3 := Lib.hid (show o3 = (i + 1) * 1 from ho3 (by omega))
  have HO4 := Lib.hid (show o4 = i * 1 from ho4 (by omega))
  obtain ⟨n1, hn1⟩ : ∃ n1, n + 1 = n1 := ⟨_, rfl⟩
  obtain ⟨i1, hi1⟩ : ∃ i1, i + 1 = i1 := ⟨_, rfl⟩
  rw [hn1] at hrun hs3 hs4 t1 t3 t6 t7 hroom hcap1 ⊢
  rw [hi1] at hs3 t2 t4 t5 HO3
  have HD := Lib.hid (drop_cells h (by omega) hnc ho1)
  have HX := Lib.hid (hx.below hb2)
  have HXL := Lib.hid hxl
  have HXN := Lib.hid (show gx ≠ G by have := blk_lt hx; omega)
  have HUS := Lib.hid hus
  have HLL := Lib.hid hLl
  have HLT := Lib.hid hLt
  have HCEL := Lib.hid hcel
  have HB2 := Lib.hid hb2
  have HRUN := Lib.hid hrun
  have H1 := Lib.hid h1
  have H2 := Lib.hid (show ∀ u ∈ us.drop (i * 1), u.oneCell' = true from fun u hu => h2 u (List.mem_of_mem_drop hu))
  have HN1 := Lib.hid hn1
  have HI1 := Lib.hid hi1
  have HGL := Lib.hid hgl
  have hin1 : i1 ≤ n1 := by omega
  have hin2 : i ≤ n1 := by omega
  have hin3 : (c : Int) < (n1 : Int) := by omega
  have HXD := Lib.hid (show (us.drop (i * 1)).length = (n - i) * 1 by rw [List.length_drop, hus, Nat.sub_mul])
  have HFIT1 := Lib.hid (show i * 1 + 1 ≤ L.length by rw [hLl]; omega)
  have HFIT2 := Lib.hid (show (i + 1) * 1 + (n - i) * 1 ≤ L.length by rw [hLl]; omega)
  have HMIN := Lib.hid (show Nat.min (n - i) (n1 - i1) = n - i by simp only [Nat.min_def]; split <;> omega)
  have HMIN2 := Lib.hid (show Nat.min 1 (n1 - i) = 1 by simp only [Nat.min_def]; split <;> omega)
  clear h hx hxl h1 h2 ho1 ho3 ho4 hus hLl hLt hcel hn1 hi1 hrun hb2 hgl hG hq HG
  go_enter Try.func64, Try.ntmps64
  go_upto_region 10 with (with_reducible refine Lib.wpList_append_run _ rfl (.tmp 34) (.tmp 39) 50 3 rfl _ _ rfl rfl _ _ (HRUN.out _) ?_)
  go_upto_region 11 with (with_reducible refine wpList_copy_row elemK rfl (.tmp 43) (.tmp 44) rfl HCEL.out (i * 1) o4 (n1 - i) (cap - i) ⟨gx, 0, none⟩ 1 1 1 xs rfl rfl HO4.out HMIN2.out (by rw [HXL.out]) (cel_cells HX.out 0 xs (fun j v hj => by rwa [Nat.zero_add])) (by rw [HXL.out]; exact HFIT1.out) H1.out ?_; intro w3 HW3 hg3; have HG3 := Lib.hid hg3; clear hg3)
  have HD3 := Lib.hid (show ∀ j u, (us.drop (i * 1))[j]? = some u → w3.drew.cell? ((⟨g, o1, none⟩ : Addr).add j) = some u from fun j u hj => by
    have hc := HD.out j u hj
    have e2 : (⟨g, o1, none⟩ : Addr).add j = ⟨g, o1 + j, none⟩ := by unfold Addr.add; split <;> simp_all
    rw [e2] at hc ⊢
    have hne : g ≠ G := by have := HGL.out; have := HGE.out; omega
    show w3.cell? ⟨g, o1 + j, none⟩ = some u
    have hlt : g < w2.heap.size := Nat.lt_of_lt_of_le HGL.out HB2.out.size
    rw [World.cell?_of_block (w := w2) (HG3.out.block g hlt (fun e => by injection e with e; exact hne e))]
    exact (HB2.out.cell (p := ⟨g, o1 + j, none⟩) HGL.out).trans hc)
  go_region_law (refine step_copy_row elemK rfl (.tmp 50) (.tmp 53) rfl (w := w3.drew) (g := G) (L := splice L (i * 1) xs) HW3.out ((i + 1) * 1) o3 (n1 - i1) (cap - i1) ⟨g, o1, none⟩ (n - i) (c - i) (n - i) (us.drop (i * 1)) (by simp [Act.eval, Act.put]) (by simp [Act.eval, Act.put]) (by have := HI1.out; rw [HO3.out, this]) HMIN.out HXD.out HD3.out (by rw [length_splice _ _ _ (by rw [HXL.out]; exact HFIT1.out), HXD.out]; exact HFIT2.out) H2.out ?_; intro w4 HW4 hg4; have HG4 := Lib.hid (grown_trans HG3.out (drew_grown hg4)); clear hg4)
  go_wp2
  go_ret
  have hl2 : (splice L (i * 1) xs).length = cap * 1 := by rw [length_splice _ _ _ (by rw [HXL.out]; exact HFIT1.out)]; exact HLL.out
  have hl3 : (splice (splice L (i * 1) xs) ((i + 1) * 1) (us.drop (i * 1))).length = cap * 1 := by
    rw [length_splice _ _ _ (by rw [hl2, HXD.out, ← HLL.out]; exact HFIT2.out)]; exact hl2
  have ho := cel_own (n := n1) HW4.out hcap1 hcap2 hl3
  have hfin := ins_other (L := L) (us := us) (xs := xs) (a := i * 1) (m := 1) (d := (n - i) * 1) HLT.out HXL.out (by rw [HUS.out]; omega) (by rw [HUS.out, ← Nat.sub_mul]) (by have h2 := HLL.out; have h3 := HN1.out; omega)
  have e1 : (i + 1) * 1 = i * 1 + 1 := by omega
  have e2 : n1 * 1 = i * 1 + 1 + (n - i) * 1 := by have h3 := HN1.out; omega
  rw [e1, e2, hfin] at ho
  have hGr : w.grownBy w4 (some g) := ⟨HG4.out.os.trans HB2.out.os, HG4.out.tape.trans HB2.out.tape, HG4.out.output.trans HB2.out.output, Nat.le_trans HB2.out.size HG4.out.size, fun k hk _ => (HG4.out.block k (Nat.lt_of_lt_of_le hk HB2.out.size) (fun e => by injection e with e; have := HGE.out; omega)).trans (HB2.out.block k hk)⟩
  rw [HZ.out] at ho
  exact ⟨.slice (some ⟨G, 0, none⟩) n1 cap, rfl, ho, hGr, .inr (fun b hb => by simp only [Value.ownBlock, Option.some.injEq] at hb; have := HGE.out; omega)⟩
end Go.Proofs.Ytjlfacmmokfleaa.Bt
