/- A tree, cloned (expr.Clone): the walk, with the ranges of blocks in which each kid's rows  -/
import Derived.Test.YtbdippgamlknbaaGreatDoorKs33
namespace Go.Proofs.YtbdippgamlknbaaGreatDoor.Ep
open Go.RowKit Go.Proofs.YtbdippgamlknbaaGreatDoor.Mem Go.Proofs.YtbdippgamlknbaaGreatDoor.Right
set_option linter.unusedVariables false
/-- What a call of Clone leaves: a tree whose rows lie apart, in new blocks. -/
def CloneR (x : Ex) : Prop := ∀ (cs : List Value) (w : World), ExAt w w.heap.size x cs → size x ≤ 1000 →
  Calls Tryz.prog 37 #[.agg cs.toArray] w fun e w' => ∃ cs', e = .returned (.agg (List.toArray cs')) ∧ RnN w' w.heap.size w'.heap.size x cs' ∧ Below w.heap.size w w'
theorem Copy.midR {n0 : Nat} {w : World} {l : List Ex} {g : Nat} (hc : ∃ cur, Cel w g tE cur ∧ l.length * 7 ≤ cur.size)
    (h : ∀ (j : Nat) (y : Ex), l[j]? = some y → ∃ ds, ds.length = 7 ∧ (∀ i u, ds[i]? = some u → w.cell? ⟨g, j * 7 + i, none⟩ = some u) ∧ ExIn w (fun b => b < n0) y ds) : MidR n0 g l 0 (g + 1) w :=
  ⟨hc, fun i y hy => by
    obtain ⟨ds, h1, h2, h3⟩ := h i y hy
    exact ⟨ds, h1, h2, fun _ => h3⟩, by rw [List.take_zero]; exact rnK_nil _ _ _ _ _, Nat.le_refl _, by obtain ⟨cur, hc, _⟩ := hc; exact hc.lt⟩
theorem MidR.other {n0 g b i m : Nat} {l : List Ex} {w : World} {v : Value} (h : MidR n0 g l 0 m w) (hb : b ≠ g) (hn : n0 ≤ b) : MidR n0 g l 0 m (w.setCell ⟨b, i, none⟩ v) := by
  obtain ⟨⟨cur, hc, hs⟩, h2, h3, h4, h5⟩ := h
  refine ⟨⟨cur, hc.other hb i v, hs⟩, fun m y hy => ?_, by rw [List.take_zero]; exact rnK_nil _ _ _ _ _, h4, by rw [World.size_setCell]; exact h5⟩
  obtain ⟨ds, hl, hcell, h4⟩ := h2 m y hy
  have hk : ∀ p : Addr, p.block ≠ b → (w.setCell ⟨b, i, none⟩ v).cell? p = w.cell? p := fun p hp => World.cell?_of_block (Below.heap_setCell _ ⟨b, i, none⟩ _ _ hp)
  exact ⟨ds, hl, fun q u hu => (hk _ (fun e => hb e.symm)).trans (hcell q u hu), fun hi => ExIn.to (fun _ h => h) (fun p hp => hk p (by omega)) y ds (h4 hi)⟩
theorem rn_open {w : World} {lo hi : Nat} {x : Ex} {cs : List Value} (h : RnN w lo hi x cs) : ∃ k o vk vn vs nm kids A c, x = Ex.mk k o vk vn vs nm kids ∧ cs = [.int .i64 k, .int .i64 o, .int .i64 vk, .int .i64 vn, .string (txt vs), .string (txt nm), .slice A kids.length c] := by
  obtain ⟨k, o, vk, vn, vs, nm, kids⟩ := x
  obtain ⟨A, c, g, e, -⟩ := (rnN_mk _ _ _ _ _ _ _ _ _ _ _).1 h
  exact ⟨k, o, vk, vn, vs, nm, kids, A, c, rfl, e⟩
theorem rn_done {n0 g b q c hi : Nat} {k o vk vn : Int} {vs nm : List UInt8} {kids : List Ex} {A : Option Addr} {w : World} {v0 v1 v2 v3 v4 v5 v6 : Value} (hA : kids ≠ [] → A = some ⟨g, 0, none⟩ ∧ b < g ∧ n0 ≤ g) (hM : kids ≠ [] → ∃ m, MidR n0 g kids kids.length m w)
    (h1 : kids.length ≤ c) (h2 : c ≤ maxLen) (h3 : A = none → c = 0) (hhi : w.heap.size ≤ hi) :
    RnN (put7 w b q v0 v1 v2 v3 v4 v5 v6) n0 hi (.mk k o vk vn vs nm kids) [.int .i64 k, .int .i64 o, .int .i64 vk, .int .i64 vn, .string (txt vs), .string (txt nm), .slice A kids.length c] := by
  refine (rnN_mk _ _ _ _ _ _ _ _ _ _ _).2 ⟨A, c, g, rfl, h1, h2, h3, fun hne => ?_, ?_⟩
  · obtain ⟨hA, hb, hg⟩ := hA hne
    obtain ⟨m, ⟨cur, hc, _⟩, -, -, h4, h5⟩ := hM hne
    exact ⟨hA, hg, by omega, cur, (put7_oth (by omega)).trans hc⟩
  · by_cases hne : kids = []
    · subst hne; exact rnK_nil _ _ _ _ _
    · obtain ⟨hA, hb, hg⟩ := hA hne
      obtain ⟨m, ⟨cur, hc, _⟩, -, hr, h4, h5⟩ := hM hne
      rw [List.take_length] at hr
      exact (RnK.keep hr (fun i z _ _ _ => World.cell?_of_block (put7_oth (by show g ≠ b; omega))) fun e h1 _ _ => put7_oth (by omega)).wide (by omega)
set_option maxRecDepth 20000 in
set_option maxHeartbeats 4000000 in
theorem clone_rn : ∀ (x : Ex), CloneR x := by
  refine Ex.byKids fun k o vk vn vs nm kids ih cs w h hz => ?_
  obtain ⟨A, n, c, rfl, hn, hnc, hcm, hA, hk⟩ := ex_open h
  rw [size] at hz
  have hlen := sizeL_len kids
  obtain ⟨W, hW⟩ : ∃ W, (w.alloc (.cells #[.int .i64 k, .int .i64 o, .int .i64 vk, .int .i64 vn, .string (txt vs), .string (txt nm), .slice A n c] 26)).alloc (.cells #[.int .i64 0, .int .i64 0, .int .i64 0, .int .i64 0, .string ⟨#[]⟩, .string ⟨#[]⟩, .slice none 0 0] 26) = W := ⟨_, rfl⟩
  have hb : Below w.heap.size w W := by rw [← hW]; exact al (al (Below.refl _ _) _) _
  have hsz : W.heap.size = w.heap.size + 2 := by rw [← hW]; simp
  have x1 : Cel W w.heap.size tE #[.int .i64 k, .int .i64 o, .int .i64 vk, .int .i64 vn, .string (txt vs), .string (txt nm), .slice A n c] := by rw [← hW]; exact (Cel.new w _ _ rfl).alloc _
  have x2 : Cel W (w.heap.size + 1) tE #[.int .i64 0, .int .i64 0, .int .i64 0, .int .i64 0, .string ⟨#[]⟩, .string ⟨#[]⟩, .slice none 0 0] := by rw [← hW]; exact Cel.new _ _ _ (by simp)
  have HB := Lib.hid hb
  have HSZ := Lib.hid hsz
  have HX1 := Lib.hid x1
  have HX2 := Lib.hid x2
  have HZ := Lib.hid hz
  have HLEN := Lib.hid hlen
  have HCC := Lib.hid (show Calls Tryz.prog 71 #[.slice A n c] W fun e w' => ∃ A3 c3, e = .returned (.slice A3 n c3) ∧ Copy (fun b => b < w.heap.size) W.heap.size w' (.slice A3 n c3) kids ∧ Below W.heap.size W w' from by
    rw [hn]
    refine (copy_any (fun b => b < w.heap.size) kids A c W (fun b hb' => by omega) (KidsIn.to (fun _ h => h) (fun p hp => hb.cell hp) hk) hA hnc (by omega)).mono ?_
    rintro e w' ⟨v, rfl, h1, h2⟩
    have h1' := h1
    obtain ⟨A3, c3, g, rfl, _⟩ := h1
    exact ⟨A3, c3, rfl, h1', h2⟩)
  have c6 := x1.at_ 6
  have HI := Lib.hid ih
  have HN := Lib.hid hn
  have HNB := Lib.hid (show n ≤ 1000 by omega)
  clear h hk hz hlen hb hsz x1 x2 ih hA hnc hcm hn
  go_enter Tryz.func37, Tryz.ntmps37
  go_upto_region 2 with (go_at_call 71; (with_reducible refine HCC.out.mono ?_); rintro e w3 ⟨A3, c3, rfl, hcp, hb3⟩; have HCP := Lib.hid hcp; have HB3 := Lib.hid hb3; have HY1 := Lib.hid (HX1.out.below hb3); have HY2 := Lib.hid (HX2.out.below hb3); have f6 := HY1.out.open_ 6; have z6 := HY1.out.at_ 6; clear hcp hb3)
  clear hW c6
  obtain ⟨W4, hW4⟩ : ∃ W4, w3.setCell ⟨w.heap.size, 6, none⟩ (.slice A3 n c3) = W4 := ⟨_, rfl⟩
  rw [hW4]
  have h4 := HCP.out
  obtain ⟨A3', c3', g, e3, hl3, hm3, hA3, hg3⟩ := h4
  rw [← HN.out] at e3 hl3
  injection e3 with e3 _ e3'
  subst e3 e3'
  have HZ1 := Lib.hid (show Cel W4 w.heap.size tE #[.int .i64 k, .int .i64 o, .int .i64 vk, .int .i64 vn, .string (txt vs), .string (txt nm), .slice A3 n c3] by rw [← hW4]; exact HY1.out.set 6 _)
  have HZ2 := Lib.hid (show Cel W4 (w.heap.size + 1) tE #[.int .i64 0, .int .i64 0, .int .i64 0, .int .i64 0, .string ⟨#[]⟩, .string ⟨#[]⟩, .slice none 0 0] by rw [← hW4]; exact HY2.out.other (by omega) _ _)
  have HB4 := Lib.hid (show Below w.heap.size w W4 by rw [← hW4]; exact (Mem.on HB.out HB3.out).setCell (p := ⟨w.heap.size, 6, none⟩) (Nat.le_refl _) _)
  have HG := Lib.hid (show kids ≠ [] → A3 = some ⟨g, 0, none⟩ ∧ w.heap.size + 2 ≤ g from fun hne => by
    obtain ⟨h1, h2, _⟩ := hg3 hne
    exact ⟨h1, by have := HSZ.out; omega⟩)
  have HMD := Lib.hid (show kids ≠ [] → ∃ m, MidR w.heap.size g kids 0 m W4 from fun hne => by
    obtain ⟨h1, h2, h3, h4⟩ := hg3 hne
    rw [← hW4]
    exact ⟨_, MidR.other (Copy.midR h3 h4) (by have := HSZ.out; omega) (Nat.le_refl _)⟩)
  have HC3 := Lib.hid (show n ≤ c3 ∧ c3 ≤ maxLen ∧ (A3 = none → c3 = 0) from ⟨hl3, hm3, hA3⟩)
  clear hW4 hl3 hm3 hA3 hg3 f6 z6
  have q6 := HZ1.out.at_ 6
  go_wp2
  go_loopw [12] (fun i wr => ∃ j : Nat, j ≤ n ∧ i = .int .i64 (j : Int) ∧ Hid (kids ≠ [] → ∃ m, MidR w.heap.size g kids j m wr) ∧ Hid (Cel wr w.heap.size tE #[.int .i64 k, .int .i64 o, .int .i64 vk, .int .i64 vn, .string (txt vs), .string (txt nm), .slice A3 n c3]) ∧
    Hid (Cel wr (w.heap.size + 1) tE #[.int .i64 0, .int .i64 0, .int .i64 0, .int .i64 0, .string ⟨#[]⟩, .string ⟨#[]⟩, .slice none 0 0]) ∧ Hid (Below w.heap.size w wr)) (fun i _ => n + 1 - (intOf i).toNat)
  case atStart => exact ⟨0, Nat.zero_le _, rfl, HMD, HZ1, HZ2, HB4⟩
  case round =>
    obtain ⟨j, hj, rfl, HM, HE1, HE2, HBR⟩ := hrel
    by_cases hlt : j < n
    · have hne : kids ≠ [] := fun e => by have := HN.out; subst e; simp at this; omega
      obtain ⟨rfl, hg⟩ := HG.out hne
      obtain ⟨mm, hm⟩ := HM.out hne
      have HMM := Lib.hid hm
      obtain ⟨y, hy⟩ := kid_some (l := kids) (j := j) (by have := HN.out; omega)
      obtain ⟨⟨cur, hcur, hcs⟩, hks, -⟩ := hm
      obtain ⟨ds, hl7, hce, hold⟩ := hks j y hy
      have hyy := hold (Nat.le_refl _)
      have hye := hyy
      obtain ⟨k', o', vk', vn', vs', nm', ks'⟩ := y
      obtain ⟨A', n', c', rfl, -⟩ := ex_open hyy
      have c0 := hce 0 _ rfl
      have c1 := hce 1 _ rfl
      have c2 := hce 2 _ rfl
      have c3' := hce 3 _ rfl
      have c4 := hce 4 _ rfl
      have c5 := hce 5 _ rfl
      have c6 := hce 6 _ rfl
      rw [Nat.add_zero] at c0
      have r6 := HE1.out.at_ 6
      have tl : decide ((j : Int) < (n : Int)) = true := decide_eq_true (by omega)
      obtain ⟨W5, hW5⟩ : ∃ W5, wr.alloc (.cells #[.int .i64 k', .int .i64 o', .int .i64 vk', .int .i64 vn', .string (txt vs'), .string (txt nm'), .slice A' n' c'] 26) = W5 := ⟨_, rfl⟩
      have hb5 : Below wr.heap.size wr W5 := by rw [← hW5]; exact al (Below.refl _ _) _
      have hx5 : Cel W5 wr.heap.size tE #[.int .i64 k', .int .i64 o', .int .i64 vk', .int .i64 vn', .string (txt vs'), .string (txt nm'), .slice A' n' c'] := by rw [← hW5]; exact Cel.new wr _ _ rfl
      have HC := Lib.hid (show Calls Tryz.prog 37 #[exV k' o' vk' vn' (txt vs') (txt nm') A' n' c'] W5.drew fun e w' => ∃ cs', e = .returned (.agg (List.toArray cs')) ∧ RnN w' W5.drew.heap.size w'.heap.size (.mk k' o' vk' vn' vs' nm' ks') cs' ∧ Below W5.drew.heap.size W5.drew w' from
        HI.out _ (kid_mem hy) _ W5.drew (ExIn.to (fun b hb => by
          have h1 := HBR.out.size
          have h2 := hb5.size
          show b < W5.heap.size
          omega) (fun p hp => hb5.drew.cell (Nat.lt_of_lt_of_le hp HBR.out.size)) _ _ hye) (by have := sizeL_mem (kid_mem hy); have := HZ.out; omega))
      have HS5 := Lib.hid (show W5.heap.size = wr.heap.size + 1 by rw [← hW5]; simp)
      have HK := Lib.hid (show ∀ W2, Below W5.drew.heap.size W5.drew W2 → (W2.cell? ⟨w.heap.size, 6, none⟩ = some (.slice (some ⟨g, 0, none⟩) n c3)) ∧ W2.cell? ⟨wr.heap.size, 0, none⟩ = some (.int .i64 k') ∧ W2.cell? ⟨wr.heap.size, 1, none⟩ = some (.int .i64 o') ∧ W2.cell? ⟨wr.heap.size, 2, none⟩ = some (.int .i64 vk') ∧ W2.cell? ⟨wr.heap.size, 3, none⟩ = some (.int .i64 vn') ∧
          W2.cell? ⟨wr.heap.size, 4, none⟩ = some (.string (txt vs')) ∧ W2.cell? ⟨wr.heap.size, 5, none⟩ = some (.string (txt nm')) ∧ W2.cell? ⟨wr.heap.size, 6, none⟩ = some (.slice A' n' c') from fun W2 hW => by
        have h1 := hx5.below (undrew hW)
        have h2 := (HE1.out.below hb5).below (undrew hW)
        exact ⟨h2.at_ 6, h1.at_ 0, h1.at_ 1, h1.at_ 2, h1.at_ 3, h1.at_ 4, h1.at_ 5, h1.at_ 6⟩)
      have HM5 := Lib.hid (HMM.out.below HBR.out.size hb5)
      have HE15 := Lib.hid (HE1.out.below hb5)
      have HE25 := Lib.hid (HE2.out.below hb5)
      have HB5 := Lib.hid (HBR.out.trans (hb5.mono HBR.out.size))
      have HY := Lib.hid hy
      have HG2 := Lib.hid (show w.heap.size + 2 ≤ g ∧ g < wr.heap.size from ⟨hg, hcur.lt⟩)
      have HNE := Lib.hid hne
      have HCU := Lib.hid (show j * 7 + 7 ≤ cur.size ∧ Cel W5 g tE cur from ⟨by have := HN.out; omega, hcur.below hb5⟩)
      obtain ⟨q6, p0, p1, p2, p3, p4, p5, p6⟩ := HK.out W5.drew (Below.refl _ _)
      clear hcur hcs hks hl7 hce hold hyy hye hb5 hx5 hne hy hg
      go_upto_region 5 with fail
      clear hW5 c0 c1 c2 c3' c4 c5 c6 r6
      --REGION
      refine wp_region_noPanic ?_
      refine wp_region_held_drew (S := (fun Wx => Wx.cell? ⟨w.heap.size, 6, none⟩ = some (.slice (some ⟨g, 0, none⟩) n c3) ∧ Wx.cell? ⟨wr.heap.size, 0, none⟩ = some (.int .i64 k') ∧ Wx.cell? ⟨wr.heap.size, 1, none⟩ = some (.int .i64 o') ∧ Wx.cell? ⟨wr.heap.size, 2, none⟩ = some (.int .i64 vk') ∧ Wx.cell? ⟨wr.heap.size, 3, none⟩ = some (.int .i64 vn') ∧ Wx.cell? ⟨wr.heap.size, 4, none⟩ = some (.string (txt vs')) ∧ Wx.cell? ⟨wr.heap.size, 5, none⟩ = some (.string (txt nm')) ∧ Wx.cell? ⟨wr.heap.size, 6, none⟩ = some (.slice A' n' c'))) (by kernel_rfl) ?_ (fun hHeld => ?_)
      · exact ⟨q6, p0, p1, p2, p3, p4, p5, p6⟩
      refine wpAnyH_take (i := 0) (v := ?_) rfl (by kernel_rfl) (by kernel_rfl) (by kernel_rfl) (fun _ _ _ h => h) (Or.inl ⟨by rfl, ?_⟩) (by assumption) ?_
      rotate_left
      · intro w' hSw; (try dsimp only at hSw); (try simp only [List.getElem_toArray, List.getElem_cons_zero]); go_simp; (try with_reducible rfl)
      (try simp only [List.getElem_toArray, List.getElem_cons_zero, Act.put, List.setIfInBounds_toArray, List.set_cons_zero, List.set_cons_succ])
      refine wpAnyH_take (i := 1) (v := ?_) rfl (by kernel_rfl) (by kernel_rfl) (by kernel_rfl) (fun _ _ _ h => h) (Or.inl ⟨by rfl, ?_⟩) (by assumption) ?_
      rotate_left
      · intro w' hSw; (try dsimp only at hSw); (try simp only [List.getElem_toArray, List.getElem_cons_succ, List.getElem_cons_zero]); go_simp; (try with_reducible rfl)
      (try simp only [List.getElem_toArray, List.getElem_cons_succ, List.getElem_cons_zero, Act.put, List.setIfInBounds_toArray, List.set_cons_zero, List.set_cons_succ])
      refine wpAnyH_take (i := 2) (v := ?_) rfl (by kernel_rfl) (by kernel_rfl) (by kernel_rfl) (fun _ _ _ h => h) (Or.inl ⟨by rfl, ?_⟩) (by assumption) ?_
      rotate_left
      · intro w' hSw; (try dsimp only at hSw); (try simp only [List.getElem_toArray, List.getElem_cons_succ, List.getElem_cons_zero]); go_simp; (try with_reducible rfl)
      (try simp only [List.getElem_toArray, List.getElem_cons_succ, List.getElem_cons_zero, Act.put, List.setIfInBounds_toArray, List.set_cons_zero, List.set_cons_succ])
      refine wpAnyH_take (i := 3) (v := ?_) rfl (by kernel_rfl) (by kernel_rfl) (by kernel_rfl) (fun _ _ _ h => h) (Or.inl ⟨by rfl, ?_⟩) (by assumption) ?_
      rotate_left
      · intro w' hSw; (try dsimp only at hSw); (try simp only [List.getElem_toArray, List.getElem_cons_succ, List.getElem_cons_zero]); go_simp; (try with_reducible rfl)
      (try simp only [List.getElem_toArray, List.getElem_cons_succ, List.getElem_cons_zero, Act.put, List.setIfInBounds_toArray, List.set_cons_zero, List.set_cons_succ])
      refine wpAnyH_ready (rs := [4]) (by kernel_rfl) (by simp) ?_
      refine AllReadyH.cons rfl (fun K hK => ?_) AllReadyH.nil
      go_simp
      go_at_call 37; (with_reducible refine HC.out.mono ?_); rintro e w2 ⟨cs2, rfl, hcl, hb2⟩; obtain ⟨k2, o2, vk2, vn2, vs2, nm2, ks2, A2, c2, -, rfl⟩ := rn_open hcl; have HCL := Lib.hid hcl; have HB2 := Lib.hid (undrew hb2); have HKW := Lib.hid (HK.out w2 hb2); clear hcl hb2
      (try go_wp2_with fail)
      refine hK.out _ _ ?_ (fun hHeld => ?_)
      · exact HKW.out
      clear hK K
      (try simp only [List.getElem_toArray, List.getElem_cons_succ, List.getElem_cons_zero, Act.put, List.setIfInBounds_toArray, List.set_cons_zero, List.set_cons_succ])
      refine wpAnyH_ready (rs := [5]) (by kernel_rfl) (by simp) ?_
      refine AllReadyH.cons rfl (fun K hK => ?_) AllReadyH.nil
      go_simp
      refine hK.out _ _ ?_ (fun hHeld => ?_)
      · exact hHeld
      clear hK K
      (try simp only [List.getElem_toArray, List.getElem_cons_succ, List.getElem_cons_zero, Act.put, List.setIfInBounds_toArray, List.set_cons_zero, List.set_cons_succ])
      have HCW := Lib.hid (HCU.out.2.below HB2.out)
      have f0 := HCW.out.open_ (j * 7)
      have g0' := HCW.out.at_ (j * 7)
      have f1 := HCW.out.open_ (j * 7 + 1)
      have g1' := HCW.out.at_ (j * 7 + 1)
      have f2 := HCW.out.open_ (j * 7 + 2)
      have g2' := HCW.out.at_ (j * 7 + 2)
      have f3 := HCW.out.open_ (j * 7 + 3)
      have g3' := HCW.out.at_ (j * 7 + 3)
      have f4 := HCW.out.open_ (j * 7 + 4)
      have g4' := HCW.out.at_ (j * 7 + 4)
      have f5 := HCW.out.open_ (j * 7 + 5)
      have g5' := HCW.out.at_ (j * 7 + 5)
      have f6 := HCW.out.open_ (j * 7 + 6)
      have g6' := HCW.out.at_ (j * 7 + 6)
      rw [Array.getElem?_eq_getElem (by have := HCU.out.1; omega)] at g0' g1' g2' g3' g4' g5' g6'
      have hk := fun (p : Addr) (hp : p.block ≠ g) => (World.cell?_of_block (put7_oth (w := w2) (q := j * 7) (v0 := .int .i64 k2) (v1 := .int .i64 o2) (v2 := .int .i64 vk2) (v3 := .int .i64 vn2) (v4 := .string (txt vs2)) (v5 := .string (txt nm2)) (v6 := .slice A2 ks2.length c2) hp) : _)
      have HSD := Lib.hid (show _ from And.intro ((hk ⟨w.heap.size, 6, none⟩ (by have := HG2.out.1; show w.heap.size ≠ g; omega)).trans HKW.out.1) (And.intro ((hk ⟨wr.heap.size, 0, none⟩ (by have := HG2.out.2; show wr.heap.size ≠ g; omega)).trans HKW.out.2.1) (And.intro ((hk ⟨wr.heap.size, 1, none⟩ (by have := HG2.out.2; show wr.heap.size ≠ g; omega)).trans HKW.out.2.2.1) (And.intro ((hk ⟨wr.heap.size, 2, none⟩ (by have := HG2.out.2; show wr.heap.size ≠ g; omega)).trans HKW.out.2.2.2.1) (And.intro ((hk ⟨wr.heap.size, 3, none⟩ (by have := HG2.out.2; show wr.heap.size ≠ g; omega)).trans HKW.out.2.2.2.2.1) (And.intro ((hk ⟨wr.heap.size, 4, none⟩ (by have := HG2.out.2; show wr.heap.size ≠ g; omega)).trans HKW.out.2.2.2.2.2.1) (And.intro ((hk ⟨wr.heap.size, 5, none⟩ (by have := HG2.out.2; show wr.heap.size ≠ g; omega)).trans HKW.out.2.2.2.2.2.2.1) ((hk ⟨wr.heap.size, 6, none⟩ (by have := HG2.out.2; show wr.heap.size ≠ g; omega)).trans HKW.out.2.2.2.2.2.2.2))))))))
      clear hk
      refine wpAnyH_ready (rs := [6]) (by kernel_rfl) (by simp) ?_
      refine AllReadyH.cons rfl (fun K hK => ?_) AllReadyH.nil
      go_simp
      refine hK.out _ _ ?_ (fun hHeld => ?_)
      · exact HSD.out
      clear hK K
      (try simp only [List.getElem_toArray, List.getElem_cons_succ, List.getElem_cons_zero, Act.put, List.setIfInBounds_toArray, List.set_cons_zero, List.set_cons_succ])
      refine wpAnyH_done (by kernel_rfl) ?_ _
      refine NoPanic.normal ?_
      --NOIGER
      have HST := Lib.hid ((HM5.out.below (by have := HBR.out.size; have := HS5.out; omega) HB2.out).put (by have := HG2.out.1; omega) HY.out (m' := W5.drew.heap.size) (by have h := HMM.out.2.2.2.2; have h2 := HS5.out; show mm ≤ W5.heap.size; omega) HCL.out HB2.out.size)
      have hnb : n ≤ 1000 := HNB.out
      go_wp2
      go_roundw
      case rel => exact ⟨j + 1, by omega, by have := HNB.out; go_num, Lib.hid fun _ => ⟨_, HST.out⟩, Lib.hid (Cel.put_other (HE15.out.below HB2.out) (by have := HG2.out.1; omega)), Lib.hid (Cel.put_other (HE25.out.below HB2.out) (by have := HG2.out.1; omega)), Lib.hid (put7_below (HB5.out.trans (HB2.out.mono HB5.out.size)) (by have := HG2.out.1; omega))⟩
      case measure => have := HNB.out; simp [intOf]; omega
    · have tl : decide ((j : Int) < (n : Int)) = false := decide_eq_false (by omega)
      obtain rfl : j = n := by omega
      have r0 := HE1.out.at_ 0
      have r1 := HE1.out.at_ 1
      have r2 := HE1.out.at_ 2
      have r3 := HE1.out.at_ 3
      have r4 := HE1.out.at_ 4
      have r5 := HE1.out.at_ 5
      have r6 := HE1.out.at_ 6
      have s0 := HE2.out.open_ 0
      have s1 := HE2.out.open_ 1
      have s2 := HE2.out.open_ 2
      have s3 := HE2.out.open_ 3
      have s4 := HE2.out.open_ 4
      have s5 := HE2.out.open_ 5
      have s6 := HE2.out.open_ 6
      have u0 := HE2.out.at_ 0
      have u1 := HE2.out.at_ 1
      have u2 := HE2.out.at_ 2
      have u3 := HE2.out.at_ 3
      have u4 := HE2.out.at_ 4
      have u5 := HE2.out.at_ 5
      have u6 := HE2.out.at_ 6
      go_wp2
      refine bodyPost_ret (v := .agg #[.int .i64 k, .int .i64 o, .int .i64 vk, .int .i64 vn, .string (txt vs), .string (txt nm), .slice A3 j c3]) ?_ rfl ?_
      · rw [results_one rfl]
        go_simp
      have hcl := rn_done (hi := (put7 wr (w.heap.size + 1) 0 (.int .i64 k) (.int .i64 o) (.int .i64 vk) (.int .i64 vn) (.string (txt vs)) (.string (txt nm)) (.slice A3 j c3)).heap.size) (b := w.heap.size + 1) (q := 0) (k := k) (o := o) (vk := vk) (vn := vn) (vs := vs) (nm := nm) (v0 := .int .i64 k) (v1 := .int .i64 o) (v2 := .int .i64 vk) (v3 := .int .i64 vn) (v4 := .string (txt vs)) (v5 := .string (txt nm)) (v6 := .slice A3 j c3) (n0 := w.heap.size) (A := A3) (c := c3)
        (fun hne => ⟨(HG.out hne).1, by have := (HG.out hne).2; omega, by have := (HG.out hne).2; omega⟩) (fun hne => by have := HM.out hne; rw [← HN.out]; exact this) (by have := HC3.out.1; have := HN.out; omega) HC3.out.2.1 HC3.out.2.2 (by rw [put7_size]; exact Nat.le_refl _)
      rw [← HN.out] at hcl
      exact ⟨_, rfl, hcl, put7_below (g := w.heap.size + 1) (q := 0) HBR.out (Nat.le_succ _)⟩
end Go.Proofs.YtbdippgamlknbaaGreatDoor.Ep
