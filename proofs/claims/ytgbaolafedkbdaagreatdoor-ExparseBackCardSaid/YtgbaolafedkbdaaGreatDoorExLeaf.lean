/- A value and a parameter are written. -/
import Derived.Test.YtgbaolafedkbdaaGreatDoorExBare
import Derived.Test.YtgbaolafedkbdaaGreatDoorValQuots
import Derived.Deep.RegionHeld3
namespace Go.Proofs.YtgbaolafedkbdaaGreatDoor.Ep
open Go.RowKit Go.Proofs.YtgbaolafedkbdaaGreatDoor.Mem Go.Proofs.YtgbaolafedkbdaaGreatDoor.Right Go.Proofs.YtgbaolafedkbdaaGreatDoor.Lx
set_option linter.unusedVariables false

theorem undrew' {B : Nat} {w w1 : World} (h : Below B w.drew w1) : Below B w w1 := ⟨h.os, h.tape, h.output, h.size, h.block⟩
theorem tx_one (t : Tt) : tx [some t] = t.2 := by rw [tx_some]; simp [tx]
set_option maxHeartbeats 4000000 in
set_option maxRecDepth 100000 in
theorem bare_lit (k n : Int) (s : List UInt8) (hn : -9223372036854775808 ≤ n) (hn' : n ≤ 9223372036854775807) (hs : s.length ≤ 1000000) : BareC (lit k n s) := by
  intro cs b l w h hl hO hg hlen
  have ht : tx (pcs (lit k n s)) = Val.showV k n s := by rw [pcs_lit, tx_one]; rfl
  rw [ht] at hlen ⊢
  obtain ⟨A, kn, c, rfl, -⟩ := ex_open (show ExIn w _ (.mk 1 0 k n s [] []) cs from h)
  obtain ⟨W, hW⟩ : ∃ W, (w.alloc (.cells (prC b) tP)).alloc (.cells #[.int .i64 1, .int .i64 0, .int .i64 k, .int .i64 n, .string (txt s), .string (txt []), .slice A kn c] tE) = W := ⟨_, rfl⟩
  obtain ⟨h1, h2, h3, h4⟩ := boxes hl _ _ _ _ W hW (by decide) (by decide)
  have y0 := (h4 W (Wr.refl _ _)).at_ 0
  obtain ⟨m, hm⟩ := (hO.below h1.1 hg).2
  have HX := Lib.hid (show ∀ Wx, Wr b W Wx → Wx.cell? ⟨w.heap.size, 0, none⟩ = some (.func (.func 25) #[.pointer (some ⟨b, 0, none⟩)] #[]) ∧ Wx.cell? ⟨w.heap.size + 1, 2, none⟩ = some (.int .i64 k) ∧ Wx.cell? ⟨w.heap.size + 1, 3, none⟩ = some (.int .i64 n) ∧ Wx.cell? ⟨w.heap.size + 1, 4, none⟩ = some (.string (txt s)) from fun Wx hx => ⟨(h3 Wx hx).at_ 0, (h4 Wx hx).at_ 2, (h4 Wx hx).at_ 3, (h4 Wx hx).at_ 4⟩)
  have HSH := Lib.hid (show Calls Tryz.prog 70 #[.agg #[.int .i64 k, .int .i64 n, .string (txt s)]] W.drew fun e w' => e = .returned (.string (txt (Val.showV k n s))) ∧ Below W.drew.heap.size W.drew w' from
    Val.show_any k n (txt s) m W.drew hn hn' (by rw [txt_size]; omega) hm)
  have HPUT := Lib.hid (show ∀ W', Bl b l W' → Calls Tryz.prog 25 #[.pointer (some ⟨b, 0, none⟩), .string (txt (Val.showV k n s))] W' fun e w' => ∃ nw, e = .returned (.tuple #[.int .i64 nw, .nilIface]) ∧ Bl b (l ++ Val.showV k n s) w' ∧ Wr b W' w' from fun W' hw' => put_any b l (txt (Val.showV k n s)) W' hw' (by rw [txt_size]; omega))
  have HLW := Lib.hid h2
  have HW := Lib.hid h1
  have HK0 := Lib.hid (HX.out W.drew ⟨(Below.refl b W).drew, (Lib.OthersKept.refl t8 (some b) W).drew⟩)
  simp at y0
  clear h hl hO hlen ht h1 h2 h3 h4 hm hn hn' hs
  go_enter Tryz.func47, Tryz.ntmps47
  go_wp2
  clear y0 hW
  refine wp_region_noPanic ?_
  refine wp_region_held_drew (S := (fun Wx => Wx.cell? ⟨w.heap.size, 0, none⟩ = some (.func (.func 25) #[.pointer (some ⟨b, 0, none⟩)] #[]) ∧ Wx.cell? ⟨w.heap.size + 1, 2, none⟩ = some (.int .i64 k) ∧ Wx.cell? ⟨w.heap.size + 1, 3, none⟩ = some (.int .i64 n) ∧ Wx.cell? ⟨w.heap.size + 1, 4, none⟩ = some (.string (txt s)))) (by kernel_rfl) ?_ (fun hHeld => ?_)
  · exact HK0.out
  refine wpAnyH_take (i := 0) (v := ?_) rfl (by kernel_rfl) (by kernel_rfl) (by kernel_rfl) (fun _ _ _ h => h) (Or.inl ⟨by rfl, ?_⟩) (by assumption) ?_
  rotate_left
  · intro w' hSw; (try dsimp only at hSw); (try simp only [List.getElem_toArray, List.getElem_cons_zero]); go_simp; (try with_reducible rfl)
  (try simp only [List.getElem_toArray, List.getElem_cons_zero, Act.put, List.setIfInBounds_toArray, List.set_cons_zero, List.set_cons_succ])
  refine wpAnyH_take (i := 1) (v := ?_) rfl (by kernel_rfl) (by kernel_rfl) (by kernel_rfl) (fun _ _ _ h => h) (Or.inl ⟨by rfl, ?_⟩) (by assumption) ?_
  rotate_left
  · intro w' hSw; (try dsimp only at hSw); (try simp only [List.getElem_toArray, List.getElem_cons_succ, List.getElem_cons_zero]); go_simp; (try with_reducible rfl)
  (try simp only [List.getElem_toArray, List.getElem_cons_succ, List.getElem_cons_zero, Act.put, List.setIfInBounds_toArray, List.set_cons_zero, List.set_cons_succ])
  refine wpAnyH_take (i := 2) (v := ?_) rfl (by kernel_rfl) (by kernel_rfl) (by kernel_rfl) (fun _ _ _ h => h) (Or.inl ⟨by rfl, ?_⟩) (by assumption) ?_
  rotate_left
  · intro w' hSw; (try dsimp only at hSw); (try simp only [List.getElem_toArray, List.getElem_cons_succ, List.getElem_cons_zero]); go_simp; (try with_reducible rfl)
  (try simp only [List.getElem_toArray, List.getElem_cons_succ, List.getElem_cons_zero, Act.put, List.setIfInBounds_toArray, List.set_cons_zero, List.set_cons_succ])
  refine wpAnyH_take (i := 3) (v := ?_) rfl (by kernel_rfl) (by kernel_rfl) (by kernel_rfl) (fun _ _ _ h => h) (Or.inl ⟨by rfl, ?_⟩) (by assumption) ?_
  rotate_left
  · intro w' hSw; (try dsimp only at hSw); (try simp only [List.getElem_toArray, List.getElem_cons_succ, List.getElem_cons_zero]); go_simp; (try with_reducible rfl)
  (try simp only [List.getElem_toArray, List.getElem_cons_succ, List.getElem_cons_zero, Act.put, List.setIfInBounds_toArray, List.set_cons_zero, List.set_cons_succ])
  refine wpAnyH_ready (rs := [4]) (by kernel_rfl) (by simp) ?_
  refine AllReadyH.cons rfl (fun K hK => ?_) AllReadyH.nil
  go_simp
  go_at_call 70; (with_reducible refine HSH.out.mono ?_); rintro e' w2 ⟨rfl, hb2⟩; have HB2 := Lib.hid (undrew' hb2); have HL2 := Lib.hid (HLW.out.below HB2.out); have HR2 := Lib.hid (Wr.of HB2.out HLW.out.2); have HK2 := Lib.hid (HX.out w2 HR2.out); have HP := Lib.hid (HPUT.out w2 HL2.out); clear hb2
  (try go_wp2_with fail)
  refine hK.out _ _ ?_ (fun hHeld => ?_)
  · exact HK2.out
  clear hK K
  (try simp only [List.getElem_toArray, List.getElem_cons_succ, List.getElem_cons_zero, Act.put, List.setIfInBounds_toArray, List.set_cons_zero, List.set_cons_succ])
  refine wpAnyH_ready (rs := [5]) (by kernel_rfl) (by simp) ?_
  refine AllReadyH.cons rfl (fun K hK => ?_) AllReadyH.nil
  go_simp
  go_at_call 25; (with_reducible refine HP.out.mono ?_); rintro e' w3 ⟨n3, rfl, hl3, hr3⟩; have HL3 := Lib.hid hl3; have HR3 := Lib.hid (HR2.out.trans hr3); have HK3 := Lib.hid (HX.out w3 HR3.out); clear hl3 hr3
  (try go_wp2_with fail)
  refine hK.out _ _ ?_ (fun hHeld => ?_)
  · exact HK3.out
  clear hK K
  (try simp only [List.getElem_toArray, List.getElem_cons_succ, List.getElem_cons_zero, Act.put, List.setIfInBounds_toArray, List.set_cons_zero, List.set_cons_succ])
  refine wpAnyH_done (by kernel_rfl) ?_ _
  refine NoPanic.normal ?_
  go_wp2
  go_end0
  exact ⟨rfl, _, HL3.out, HW.out.trans HR3.out, WT.lit _ _⟩
set_option maxHeartbeats 4000000 in
set_option maxRecDepth 100000 in
theorem bare_par (j : Nat) (hj : 1 ≤ j) (hj' : j ≤ 6) : BareC (par j) := by
  intro cs b l w h hl hO hg hlen
  obtain ⟨T, hT⟩ : ∃ T : List UInt8, Lib.decDigits j = T := ⟨_, rfl⟩
  have hT1 : T = [UInt8.ofNat (48 + j)] := by rw [← hT]; exact Lib.decDigits_one (by omega)
  have ht : tx (pcs (par j)) = 36 :: T := by rw [pcs_par, tx_one, hT1]; rfl
  rw [ht] at hlen ⊢
  obtain ⟨A, kn, c, rfl, -⟩ := ex_open (show ExIn w _ (.mk 3 j 0 0 [] [] []) cs from h)
  obtain ⟨W, hW⟩ : ∃ W, (w.alloc (.cells (prC b) tP)).alloc (.cells #[.int .i64 3, .int .i64 j, .int .i64 0, .int .i64 0, .string (txt []), .string (txt []), .slice A kn c] tE) = W := ⟨_, rfl⟩
  obtain ⟨h1, h2, h3, h4⟩ := boxes hl _ _ _ _ W hW (by decide) (by decide)
  have y0 := (h4 W (Wr.refl _ _)).at_ 0
  have HX := Lib.hid (show ∀ Wx, Wr b W.drew Wx → Wx.cell? ⟨w.heap.size, 0, none⟩ = some (.func (.func 25) #[.pointer (some ⟨b, 0, none⟩)] #[]) ∧ Wx.cell? ⟨w.heap.size + 1, 1, none⟩ = some (.int .i64 (j : Int)) from fun Wx hx => by
    have hx' : Wr b W Wx := Wr.trans ⟨(Below.refl b W).drew, (Lib.OthersKept.refl t8 (some b) W).drew⟩ hx
    exact ⟨(h3 Wx hx').at_ 0, (h4 Wx hx').at_ 1⟩)
  have HSH := Lib.hid (show Calls Tryz.prog 71 #[.int .i64 (j : Int)] W.drew fun e w' => e = .returned (.string (txt T)) ∧ w' = W.drew from by rw [← hT]; exact Tryz.strconv_Itoa_small j (by omega) W.drew)
  have hcat : ((⟨#[36]⟩ : ByteArray) ++ txt T).data.toList = 36 :: T := by simp [ByteArray.data_append, txt]
  have hcs : ((⟨#[36]⟩ : ByteArray) ++ txt T).size = T.length + 1 := by
    rw [ByteArray.size_append, txt_size]
    have : (ByteArray.mk #[36]).size = 1 := rfl
    omega
  have HPUT := Lib.hid (show Calls Tryz.prog 25 #[.pointer (some ⟨b, 0, none⟩), .string ((⟨#[36]⟩ : ByteArray) ++ txt T)] W.drew fun e w' => ∃ n, e = .returned (.tuple #[.int .i64 n, .nilIface]) ∧ Bl b (l ++ 36 :: T) w' ∧ Wr b W.drew w' from by
    have := put_any b l ((⟨#[36]⟩ : ByteArray) ++ txt T) W.drew h2 (by rw [hcs]; simp at hlen; omega)
    rw [hcat] at this
    exact this)
  have h36 : (ByteArray.mk #[36]).size = 1 := rfl
  have hca := run_string_add_sum (P := Tryz.prog) (w := W.drew) ⟨#[36]⟩ (txt T) (by rw [txt_size, hT1]; simp; omega)
  have HW := Lib.hid (show Wr b w W.drew from ⟨h1.1.drew, h1.2.drew⟩)
  have HK0 := Lib.hid (HX.out W.drew (Wr.refl _ _))
  simp at y0
  clear h hl hO hlen ht h1 h2 h3 h4 hT hT1 hcat hcs h36
  obtain ⟨ts, hts⟩ : ∃ ts, txt T = ts := ⟨_, rfl⟩
  rw [hts] at HSH HPUT hca
  clear hts
  go_enter Tryz.func47, Tryz.ntmps47
  go_wp2
  clear y0 hW
  refine wp_region_noPanic ?_
  refine wp_region_held_drew (S := (fun Wx => Wx.cell? ⟨w.heap.size, 0, none⟩ = some (.func (.func 25) #[.pointer (some ⟨b, 0, none⟩)] #[]) ∧ Wx.cell? ⟨w.heap.size + 1, 1, none⟩ = some (.int .i64 (j : Int)))) (by kernel_rfl) ?_ (fun hHeld => ?_)
  · exact HK0.out
  refine wpAnyH_take (i := 0) (v := ?_) rfl (by kernel_rfl) (by kernel_rfl) (by kernel_rfl) (fun _ _ _ h => h) (Or.inl ⟨by rfl, ?_⟩) (by assumption) ?_
  rotate_left
  · intro w' hSw; (try dsimp only at hSw); (try simp only [List.getElem_toArray, List.getElem_cons_zero]); go_simp; (try with_reducible rfl)
  (try simp only [List.getElem_toArray, List.getElem_cons_zero, Act.put, List.setIfInBounds_toArray, List.set_cons_zero, List.set_cons_succ])
  refine wpAnyH_take (i := 1) (v := ?_) rfl (by kernel_rfl) (by kernel_rfl) (by kernel_rfl) (fun _ _ _ h => h) (Or.inl ⟨by rfl, ?_⟩) (by assumption) ?_
  rotate_left
  · intro w' hSw; (try dsimp only at hSw); (try simp only [List.getElem_toArray, List.getElem_cons_succ, List.getElem_cons_zero]); go_simp; (try with_reducible rfl)
  (try simp only [List.getElem_toArray, List.getElem_cons_succ, List.getElem_cons_zero, Act.put, List.setIfInBounds_toArray, List.set_cons_zero, List.set_cons_succ])
  refine wpAnyH_take (i := 2) (v := ?_) rfl (by kernel_rfl) (by kernel_rfl) (by kernel_rfl) (fun _ _ _ h => h) (Or.inl ⟨by rfl, ?_⟩) (by assumption) ?_
  rotate_left
  · intro w' hSw; (try dsimp only at hSw); (try simp only [List.getElem_toArray, List.getElem_cons_succ, List.getElem_cons_zero]); go_simp; (try with_reducible rfl)
  (try simp only [List.getElem_toArray, List.getElem_cons_succ, List.getElem_cons_zero, Act.put, List.setIfInBounds_toArray, List.set_cons_zero, List.set_cons_succ])
  refine wpAnyH_take (i := 3) (v := ?_) rfl (by kernel_rfl) (by kernel_rfl) (by kernel_rfl) (fun _ _ _ h => h) (Or.inl ⟨by rfl, ?_⟩) (by assumption) ?_
  rotate_left
  · intro w' hSw; (try dsimp only at hSw); (try simp only [List.getElem_toArray, List.getElem_cons_succ, List.getElem_cons_zero]); go_simp; (try with_reducible rfl)
  (try simp only [List.getElem_toArray, List.getElem_cons_succ, List.getElem_cons_zero, Act.put, List.setIfInBounds_toArray, List.set_cons_zero, List.set_cons_succ])
  refine wpAnyH_ready (rs := [4]) (by kernel_rfl) (by simp) ?_
  refine AllReadyH.cons rfl (fun K hK => ?_) AllReadyH.nil
  go_simp
  go_at_call 71; (with_reducible refine HSH.out.mono ?_); rintro e' w2 ⟨rfl, rfl⟩
  (try go_wp2_with fail)
  refine hK.out _ _ ?_ (fun hHeld => ?_)
  · exact HK0.out
  clear hK K
  (try simp only [List.getElem_toArray, List.getElem_cons_succ, List.getElem_cons_zero, Act.put, List.setIfInBounds_toArray, List.set_cons_zero, List.set_cons_succ])
  refine wpAnyH_ready (rs := [5]) (by kernel_rfl) (by simp) ?_
  refine AllReadyH.cons rfl (fun K hK => ?_) AllReadyH.nil
  go_simp
  refine hK.out _ _ ?_ (fun hHeld => ?_)
  · exact HK0.out
  clear hK K
  (try simp only [List.getElem_toArray, List.getElem_cons_succ, List.getElem_cons_zero, Act.put, List.setIfInBounds_toArray, List.set_cons_zero, List.set_cons_succ])
  refine wpAnyH_ready (rs := [6]) (by kernel_rfl) (by simp) ?_
  refine AllReadyH.cons rfl (fun K hK => ?_) AllReadyH.nil
  go_simp
  go_at_call 25; (with_reducible refine HPUT.out.mono ?_); rintro e' w3 ⟨n3, rfl, hl3, hr3⟩; have HL3 := Lib.hid hl3; have HR3 := Lib.hid hr3; have HK3 := Lib.hid (HX.out w3 HR3.out); clear hl3 hr3
  (try go_wp2_with fail)
  refine hK.out _ _ ?_ (fun hHeld => ?_)
  · exact HK3.out
  clear hK K
  (try simp only [List.getElem_toArray, List.getElem_cons_succ, List.getElem_cons_zero, Act.put, List.setIfInBounds_toArray, List.set_cons_zero, List.set_cons_succ])
  refine wpAnyH_done (by kernel_rfl) ?_ _
  refine NoPanic.normal ?_
  go_wp2
  go_end0
  exact ⟨rfl, _, HL3.out, HW.out.trans HR3.out, WT.lit _ _⟩
end Go.Proofs.YtgbaolafedkbdaaGreatDoor.Ep
