/- A call and an IN are written; so is every right tree without slots. -/
import Derived.Test.YtgbaolafedkbdaaGreatDoorExList
import Derived.Test.YtgbaolafedkbdaaGreatDoorExLeaf
namespace Go.Proofs.YtgbaolafedkbdaaGreatDoor.Ep
open Go.RowKit Go.Proofs.YtgbaolafedkbdaaGreatDoor.Mem Go.Proofs.YtgbaolafedkbdaaGreatDoor.Right Go.Proofs.YtgbaolafedkbdaaGreatDoor.Lx
set_option linter.unusedVariables false

theorem slice_tail (b o n c : Nat) (hn : 1 ≤ n) (hc : 2 ≤ c) : ∀ w : World, (Instr.sliceAt 30 (.slice (some ⟨b, o, none⟩) n c) (some (.int .i64 1)) none none).run Tryz.prog w = .ok (.slice (some ⟨b, o + 7, none⟩) (n - 1) (c - 1)) w := by
  intro W
  have hl := Tryz.underlying30
  have he : Tryz.prog.elem 30 = 32 := by simp [Program.elem, hl]
  have hs : (sizeOf 32).run Tryz.prog W = .ok 7 W := by kernel_rfl
  rw [run_sliceAt_slice W _ _ _ _ _ (by rw [he]; exact hl), run_slice_l W 30 _ n c (by rw [he]; exact hl) .i64 1 (by omega) (by omega), he, hs]
  simp only [Result.andThen, sliced]
  rw [if_neg (by simp; omega)]
  simp [Addr.add]
theorem kids_tail {w : World} {S : Nat → Prop} {b o : Nat} {a : Ex} {l : List Ex} (h : KidsIn w S (some ⟨b, o, none⟩) 0 (a :: l)) : KidsIn w S (some ⟨b, o + 7, none⟩) 0 l :=
  KidsIn.of fun j x hx => by
    obtain ⟨b', o', cs, e, hb, hl, hc, hx'⟩ := h.get (j := j + 1) (by rw [List.getElem?_cons_succ]; exact hx)
    injection e with e
    injection e with e1 e2
    subst e1 e2
    refine ⟨b, o + 7, cs, rfl, hb, hl, fun i u hu => ?_, hx'⟩
    rw [show o + 7 + (0 + j) * 7 + i = o + (0 + (j + 1)) * 7 + i by omega]
    exact hc i u hu
theorem up_name {nm : List UInt8} (h : nm = nCoal ∨ nm = nLen ∨ nm = nAbs) : Lib.toUpperA nm = (callT nm).2 ∧ nm.length ≤ 8 ∧ (callT nm).2.length = nm.length ∧ ∀ (j : Nat) (c : UInt8), nm[j]? = some c → c.toNat < 128 := by
  have key : ∀ l : List UInt8, (∀ c ∈ l, c.toNat < 128) → ∀ (j : Nat) (c : UInt8), l[j]? = some c → c.toNat < 128 := fun l hl j c hc => hl c (List.mem_of_getElem? hc)
  rcases h with rfl | rfl | rfl
  all_goals exact ⟨by decide, by decide, by decide, key _ (by decide)⟩
set_option maxHeartbeats 4000000 in
set_option maxRecDepth 100000 in
theorem bare_call (nm : List UInt8) (kids : List Ex) (hnm : nm = nCoal ∨ nm = nLen ∨ nm = nAbs) (hkd : ∀ x ∈ kids, KidC x) (hkm : kids.length ≤ 1000) : BareC (call nm kids) := by
  intro cs b l w h hl hO hg hlen
  obtain ⟨hu1, hu2, hu3, hu4⟩ := up_name hnm
  obtain ⟨U, hU⟩ : ∃ U, (callT nm).2 = U := ⟨_, rfl⟩
  have ht : tx (pcs (call nm kids)) = U ++ ([40] ++ (tx (pcsL kids) ++ [41])) := by rw [pcs_call, tx_some, tx_some, tx_app, tx_some, hU]; rfl
  rw [hU] at hu1 hu3
  rw [ht] at hlen ⊢
  simp only [List.length_append, List.length_cons, List.length_nil] at hlen
  obtain ⟨A, kn, cp, rfl, hkn, -, -, -, hk⟩ := ex_open (show ExIn w _ (.mk 7 0 0 0 [] nm kids) cs from h)
  obtain ⟨W, hW⟩ : ∃ W, (w.alloc (.cells (prC b) tP)).alloc (.cells #[.int .i64 7, .int .i64 0, .int .i64 0, .int .i64 0, .string (txt []), .string (txt nm), .slice A kn cp] tE) = W := ⟨_, rfl⟩
  obtain ⟨h1, h2, h3, h4⟩ := boxes hl _ _ _ _ W hW (by decide) (by decide)
  have y0 := (h4 W (Wr.refl _ _)).at_ 0
  have HX := Lib.hid (show ∀ Wx, Wr b W Wx → (Wx.cell? ⟨w.heap.size, 0, none⟩ = some (.func (.func 25) #[.pointer (some ⟨b, 0, none⟩)] #[]) ∧ Wx.cell? ⟨w.heap.size, 1, none⟩ = some (.func (.func 26) #[.pointer (some ⟨b, 0, none⟩)] #[])) ∧ Wx.cell? ⟨w.heap.size + 1, 5, none⟩ = some (.string (txt nm)) ∧ Wx.cell? ⟨w.heap.size + 1, 6, none⟩ = some (.slice A kn cp) from fun Wx hx => ⟨⟨(h3 Wx hx).at_ 0, (h3 Wx hx).at_ 1⟩, (h4 Wx hx).at_ 5, (h4 Wx hx).at_ 6⟩)
  have HSH := Lib.hid (show Calls Tryz.prog 75 #[.string (txt nm)] W.drew fun e w' => e = .returned (.string (txt U)) ∧ Below W.drew.heap.size W.drew w' from by
    rw [← hu1]
    exact Tryz.strings_ToUpper_ascii (txt nm) W.drew (by rw [txt_size]; omega) hu4)
  have HPUT := Lib.hid (show ∀ W', Bl b l W' → Calls Tryz.prog 25 #[.pointer (some ⟨b, 0, none⟩), .string (txt U)] W' fun e w' => ∃ n, e = .returned (.tuple #[.int .i64 n, .nilIface]) ∧ Bl b (l ++ U) w' ∧ Wr b W' w' from fun W' hw' => put_any b l (txt U) W' hw' (by rw [txt_size]; omega))
  have HLI := Lib.hid (show ∀ W', Bl b (l ++ U) W' → Wr b W W' → Calls Tryz.prog 74 #[prV b, .slice A kn cp] W' fun x w' => x = .returned (.tuple #[]) ∧ ∃ l', Bl b l' w' ∧ Wr b W' w' ∧ WT (l ++ U) ([40] ++ (tx (pcsL kids) ++ [41])) l' from fun W' q1 q2 => by
    have hw' := h1.trans q2
    rw [hkn]
    exact list_any kids hkd A cp b (l ++ U) W' (KidsIn.to (fun _ h => h) (fun p hp => hw'.1.cell hp) hk) hkm q1 (hO.below hw'.1 hg) hg (by rw [List.length_append]; omega))
  have HLW := Lib.hid h2
  have HW := Lib.hid h1
  have HK0 := Lib.hid (HX.out W.drew (drew_wr b W))
  simp at y0
  clear h hl hO hlen ht h1 h2 h3 h4 hk hkn hu1 hu2 hu3 hu4 hU hkd hkm
  go_enter Tryz.func47, Tryz.ntmps47
  go_wp2
  clear y0 hW
  refine wp_region_noPanic ?_
  refine wp_region_held_drew (S := (fun Wx => Wx.cell? ⟨w.heap.size, 0, none⟩ = some (.func (.func 25) #[.pointer (some ⟨b, 0, none⟩)] #[]) ∧ Wx.cell? ⟨w.heap.size + 1, 5, none⟩ = some (.string (txt nm)))) (by kernel_rfl) ?_ (fun hHeld => ?_)
  · exact ⟨HK0.out.1.1, HK0.out.2.1⟩
  refine wpAnyH_take (i := 0) (v := ?_) rfl (by kernel_rfl) (by kernel_rfl) (by kernel_rfl) (fun _ _ _ h => h) (Or.inl ⟨by rfl, ?_⟩) (by assumption) ?_
  rotate_left
  · intro w' hSw; (try dsimp only at hSw); (try simp only [List.getElem_toArray, List.getElem_cons_zero]); go_simp; (try with_reducible rfl)
  (try simp only [List.getElem_toArray, List.getElem_cons_zero, Act.put, List.setIfInBounds_toArray, List.set_cons_zero, List.set_cons_succ])
  refine wpAnyH_take (i := 1) (v := ?_) rfl (by kernel_rfl) (by kernel_rfl) (by kernel_rfl) (fun _ _ _ h => h) (Or.inl ⟨by rfl, ?_⟩) (by assumption) ?_
  rotate_left
  · intro w' hSw; (try dsimp only at hSw); (try simp only [List.getElem_toArray, List.getElem_cons_succ, List.getElem_cons_zero]); go_simp; (try with_reducible rfl)
  (try simp only [List.getElem_toArray, List.getElem_cons_succ, List.getElem_cons_zero, Act.put, List.setIfInBounds_toArray, List.set_cons_zero, List.set_cons_succ])
  refine wpAnyH_take (i := 2) (v := ?_) rfl (by kernel_rfl) (by kernel_rfl) (by kernel_rfl) (fun _ _ _ h => h) (Or.inl ⟨by rfl, ?_⟩) (by assumption) ?_
  rotate_left
  · intro w' hSw; (try dsimp only at hSw); (try simp only [List.getElem_toArray, List.getElem_cons_succ, List.getElem_cons_zero]); go_simp; (try with_reducible rfl)
  (try simp only [List.getElem_toArray, List.getElem_cons_succ, List.getElem_cons_zero, Act.put, List.setIfInBounds_toArray, List.set_cons_zero, List.set_cons_succ])
  refine wpAnyH_take (i := 3) (v := ?_) rfl (by kernel_rfl) (by kernel_rfl) (by kernel_rfl) (fun _ _ _ h => h) (Or.inl ⟨by rfl, ?_⟩) (by assumption) ?_
  rotate_left
  · intro w' hSw; (try dsimp only at hSw); (try simp only [List.getElem_toArray, List.getElem_cons_succ, List.getElem_cons_zero]); go_simp; (try with_reducible rfl)
  (try simp only [List.getElem_toArray, List.getElem_cons_succ, List.getElem_cons_zero, Act.put, List.setIfInBounds_toArray, List.set_cons_zero, List.set_cons_succ])
  refine wpAnyH_ready (rs := [4]) (by kernel_rfl) (by simp) ?_
  refine AllReadyH.cons rfl (fun K hK => ?_) AllReadyH.nil
  go_simp
  go_at_call 75; (with_reducible refine HSH.out.mono ?_); rintro e' w2 ⟨rfl, hb2⟩; have HB2 := Lib.hid (undrew' hb2); have HL2 := Lib.hid (HLW.out.below HB2.out); have HR2 := Lib.hid (Wr.of HB2.out HLW.out.2); have HK2 := Lib.hid (HX.out w2 HR2.out); have HP := Lib.hid (HPUT.out w2 HL2.out); clear hb2
  (try go_wp2_with fail)
  refine hK.out _ _ ?_ (fun hHeld => ?_)
  · exact ⟨HK2.out.1.1, HK2.out.2.1⟩
  clear hK K
  (try simp only [List.getElem_toArray, List.getElem_cons_succ, List.getElem_cons_zero, Act.put, List.setIfInBounds_toArray, List.set_cons_zero, List.set_cons_succ])
  refine wpAnyH_ready (rs := [5]) (by kernel_rfl) (by simp) ?_
  refine AllReadyH.cons rfl (fun K hK => ?_) AllReadyH.nil
  go_simp
  go_at_call 25; (with_reducible refine HP.out.mono ?_); rintro e' w3 ⟨n3, rfl, hl3, hr3⟩; have HL3 := Lib.hid hl3; have HR3 := Lib.hid (HR2.out.trans hr3); have HK3 := Lib.hid (HX.out w3 HR3.out); clear hl3 hr3
  (try go_wp2_with fail)
  refine hK.out _ _ ?_ (fun hHeld => ?_)
  · exact ⟨HK3.out.1.1, HK3.out.2.1⟩
  clear hK K
  (try simp only [List.getElem_toArray, List.getElem_cons_succ, List.getElem_cons_zero, Act.put, List.setIfInBounds_toArray, List.set_cons_zero, List.set_cons_succ])
  refine wpAnyH_done (by kernel_rfl) ?_ _
  refine NoPanic.normal ?_
  obtain ⟨⟨x0, x1⟩, x5, x6⟩ := HK3.out
  go_wp2_with (go_at_call 74; (with_reducible refine (HLI.out w3 HL3.out HR3.out).mono ?_); rintro e' w5 ⟨rfl, l5, hl5, hr5, ht5⟩; have HL5 := Lib.hid hl5; have HT5 := Lib.hid ht5; have HR5 := Lib.hid (HR3.out.trans hr5); clear hl5 hr5 ht5)
  go_end0
  exact ⟨rfl, _, HL5.out, HW.out.trans HR5.out, (WT.lit _ _).trans HT5.out⟩
set_option maxHeartbeats 4000000 in
set_option maxRecDepth 100000 in
theorem bare_inn {a : Ex} {kids : List Ex} (ha : KidC a) (hkd : ∀ x ∈ kids, KidC x) (hne : kids ≠ []) (hkm : kids.length ≤ 1000) : BareC (inn (a :: kids)) := by
  intro cs b l w h hl hO hg hlen
  have ht : tx (pcs (inn (a :: kids))) = tx (kidP a 5) ++ ([32, 73, 78, 32] ++ ([40] ++ (tx (pcsL kids) ++ [41]))) := by rw [pcs_inn, tx_app, tx_none, tx_some, tx_none, tx_some, tx_app, tx_some]; rfl
  rw [ht] at hlen ⊢
  simp only [List.length_append, List.length_cons, List.length_nil] at hlen
  obtain ⟨A, kn, cp, rfl, hkn, hcl, -, -, hk⟩ := ex_open (show ExIn w _ (.mk 6 0 0 0 [] [] (a :: kids)) cs from h)
  obtain ⟨k1, o1, vk1, vn1, vs1, nm1, ks1, A1, n1, c1', b1, p1, ea, hA1, hb1, -, c0, c1, c2, c3, c4, c5, c6, hina⟩ := kid_at (j := 0) hk rfl
  subst hA1
  have hkl := kids_tail hk
  have hcp : 2 ≤ cp := by
    have : 0 < kids.length := List.length_pos_iff.2 hne
    rw [List.length_cons] at hcl
    omega
  have hkn1 : kn - 1 = kids.length := by rw [hkn]; rfl
  have hkn0 : 1 ≤ kn := by rw [hkn]; simp
  obtain ⟨W, hW⟩ : ∃ W, (w.alloc (.cells (prC b) tP)).alloc (.cells #[.int .i64 6, .int .i64 0, .int .i64 0, .int .i64 0, .string (txt []), .string (txt []), .slice (some ⟨b1, p1, none⟩) kn cp] tE) = W := ⟨_, rfl⟩
  obtain ⟨g1, g2, g3, g4⟩ := boxes hl _ _ _ _ W hW (by decide) (by decide)
  have kk := (g4 W (Wr.refl _ _)).at_ 0
  simp at kk
  have hwD : Wr b w W.drew := g1.trans (drew_wr b W)
  have HX := Lib.hid (show ∀ Wx, Wr b W.drew Wx → (Wx.cell? ⟨w.heap.size, 0, none⟩ = some (.func (.func 25) #[.pointer (some ⟨b, 0, none⟩)] #[]) ∧ Wx.cell? ⟨w.heap.size, 1, none⟩ = some (.func (.func 26) #[.pointer (some ⟨b, 0, none⟩)] #[])) ∧ Wx.cell? ⟨w.heap.size + 1, 6, none⟩ = some (.slice (some ⟨b1, p1, none⟩) kn cp) from fun Wx hx => by
    have hx' := (drew_wr b W).trans hx
    exact ⟨⟨(g3 Wx hx').at_ 0, (g3 Wx hx').at_ 1⟩, (g4 Wx hx').at_ 6⟩)
  simp only [Nat.zero_mul, Nat.add_zero] at c0 c1 c2 c3 c4 c5 c6
  have HKD := Lib.hid (show Calls Tryz.prog 27 #[prV b, exV k1 o1 vk1 vn1 (txt vs1) (txt nm1) A1 n1 c1', .int .i64 5] W.drew fun x w' => x = .returned (.tuple #[]) ∧ ∃ l', Bl b l' w' ∧ Wr b W.drew w' ∧ WT l (tx (kidP a 5)) l' from
    ha _ b 5 l W.drew (hina.to (fun _ h => h) (fun p hp => hwD.1.cell hp)) g2 (hO.below hwD.1 hg) hg (by omega))
  have HPUT := Lib.hid (show ∀ (m : List UInt8) W', Bl b m W' → m.length ≤ 1000000 → Calls Tryz.prog 25 #[.pointer (some ⟨b, 0, none⟩), .string ⟨#[32, 73, 78, 32]⟩] W' fun e w' => ∃ n, e = .returned (.tuple #[.int .i64 n, .nilIface]) ∧ Bl b (m ++ [32, 73, 78, 32]) w' ∧ Wr b W' w' from fun m W' q1 q2 => put_any b m ⟨#[32, 73, 78, 32]⟩ W' q1 (by have : (ByteArray.mk #[32, 73, 78, 32]).size = 4 := rfl; omega))
  have HLI := Lib.hid (show ∀ (m : List UInt8) W', Bl b m W' → Wr b W.drew W' → m.length + (tx (pcsL kids)).length + 2 ≤ 1000000 → Calls Tryz.prog 74 #[prV b, .slice (some ⟨b1, p1 + 7, none⟩) (kn - 1) (cp - 1)] W' fun x w' => x = .returned (.tuple #[]) ∧ ∃ l', Bl b l' w' ∧ Wr b W' w' ∧ WT m ([40] ++ (tx (pcsL kids) ++ [41])) l' from fun m W' q1 q2 q3 => by
    have hw' := hwD.trans q2
    rw [hkn1]
    exact list_any kids hkd _ (cp - 1) b m W' (KidsIn.to (fun _ h => h) (fun p hp => hw'.1.cell hp) hkl) hkm q1 (hO.below hw'.1 hg) hg q3)
  have HW := Lib.hid hwD
  have HLEN := Lib.hid hlen
  have e0 : W.drew.cell? ⟨b1, p1, none⟩ = some (.int .i64 k1) := (hwD.1.cell hb1).trans c0
  have e1 : W.drew.cell? ⟨b1, p1 + 1, none⟩ = some (.int .i64 o1) := (hwD.1.cell hb1).trans c1
  have e2 : W.drew.cell? ⟨b1, p1 + 2, none⟩ = some (.int .i64 vk1) := (hwD.1.cell hb1).trans c2
  have e3 : W.drew.cell? ⟨b1, p1 + 3, none⟩ = some (.int .i64 vn1) := (hwD.1.cell hb1).trans c3
  have e4 : W.drew.cell? ⟨b1, p1 + 4, none⟩ = some (.string (txt vs1)) := (hwD.1.cell hb1).trans c4
  have e5 : W.drew.cell? ⟨b1, p1 + 5, none⟩ = some (.string (txt nm1)) := (hwD.1.cell hb1).trans c5
  have e6 : W.drew.cell? ⟨b1, p1 + 6, none⟩ = some (.slice A1 n1 c1') := (hwD.1.cell hb1).trans c6
  have hsl := slice_tail b1 p1 kn cp hkn0 hcp
  obtain ⟨⟨x0, x1⟩, x6⟩ := HX.out W.drew (Wr.refl _ _)
  have hk0 : 0 < kn := hkn0
  clear h hl hO hlen hk hcl hina g1 g2 g3 g4 hwD ha c0 c1 c2 c3 c4 c5 c6 ea hb1 hkl hkn hkn1 hkd hkm hne ht
  go_enter Tryz.func47, Tryz.ntmps47
  go_wp2
  refine wp_region_still_tail 5 (by kernel_rfl) (by kernel_rfl) ?_
  simp only [List.take_succ_cons, List.take_zero, List.drop_succ_cons, List.drop_zero]
  change wpStill _ _ (W.drew) (fun a' => wpList _ _ _ _ a' (W.drew)) _ _
  clear kk hW
  generalize W.drew = w3 at *
  repeat still_step
  refine wpStill_nil ?_
  go_wp2_with (first
    | (go_at_call 27; (with_reducible refine HKD.out.mono ?_); rintro e' w5 ⟨rfl, l5, hl5, hr5, ht5⟩; have HL5 := Lib.hid hl5; have HT5 := Lib.hid ht5; have HR5 := Lib.hid hr5; obtain ⟨⟨x0, x1⟩, x6⟩ := HX.out w5 hr5; clear hl5 hr5 ht5)
    | (go_at_call 25; (with_reducible refine (HPUT.out l5 w5 HL5.out (by have := HT5.out.len; have := HLEN.out; omega)).mono ?_); rintro e' w6 ⟨n6, rfl, hl6, hr6⟩; have HL6 := Lib.hid hl6; have HR6 := Lib.hid (HR5.out.trans hr6); clear hl6 hr6))
  have hr7 : Wr b w3 w6.drew := HR6.out.trans (drew_wr b w6)
  have hl7 : Bl b (l5 ++ [32, 73, 78, 32]) w6.drew := HL6.out
  have HLI7 := Lib.hid (HLI.out _ w6.drew hl7 hr7 (by have := HT5.out.len; have := HLEN.out; simp only [List.length_append, List.length_cons, List.length_nil]; omega))
  refine wp_region_still_tail 4 (by kernel_rfl) (by kernel_rfl) ?_
  simp only [List.take_succ_cons, List.take_zero, List.drop_succ_cons, List.drop_zero]
  change wpStill _ _ (w6.drew) (fun a' => wpList _ _ _ _ a' (w6.drew)) _ _
  clear x0 x1 x6 e0 e1 e2 e3 e4 e5 e6 hl7
  generalize w6.drew = w7 at *
  obtain ⟨⟨x0, x1⟩, x6⟩ := HX.out w7 hr7
  have HR7 := Lib.hid hr7
  clear hr7
  repeat still_step
  refine wpStill_nil ?_
  go_wp2_with (go_at_call 74; (with_reducible refine HLI7.out.mono ?_); rintro e' w8 ⟨rfl, l8, hl8, hr8, ht8⟩; have HL8 := Lib.hid hl8; have HT8 := Lib.hid ht8; have HR8 := Lib.hid (HR7.out.trans hr8); clear hl8 hr8 ht8)
  go_end0
  exact ⟨rfl, _, HL8.out, HW.out.trans HR8.out, HT5.out.trans ((WT.lit _ _).trans HT8.out)⟩
theorem ok_len {k n : Int} {s : List UInt8} (h : Val.okV k n s = true) : s.length ≤ 1000000 := by
  unfold Val.okV at h
  repeat' split at h
  all_goals simp at h
  all_goals first | (obtain ⟨_, rfl⟩ := h; simp) | (subst h; simp) | (obtain ⟨⟨_, h⟩, _⟩ := h; omega) | omega
/-- Every right tree without slots is written. -/
theorem kid_all {e : Ex} (h : Rt e) : KidC e := by
  induction h with
  | @lit k n s h0 h1 h2 h3 => exact kid_of_bare (bare_lit k n s h3 h2 (ok_len h0))
  | col _ => exact kid_of_bare (bare_col _)
  | @par o h1 h2 =>
    obtain ⟨j, rfl⟩ : ∃ j : Nat, o = (j : Int) := ⟨o.toNat, by omega⟩
    exact kid_of_bare (bare_par j (by omega) (by omega))
  | un h1 h2 _ ih => exact kid_of_bare (bare_un ih _ h1 h2)
  | @bin o a c h1 h2 _ _ iha ihc =>
    obtain ⟨j, rfl⟩ : ∃ j : Nat, o = (j : Int) + 1 := ⟨(o - 1).toNat, by omega⟩
    exact kid_of_bare (bare_bin iha ihc j (by omega))
  | inn hne hl _ _ iha ihl => exact kid_of_bare (bare_inn iha ihl hne (by omega))
  | @call nm kl hne hn _ ih => exact kid_of_bare (bare_call nm kl (hn.elim (fun h => .inl h.1) (fun h => h.1.elim (fun e => .inr (.inl e)) (fun e => .inr (.inr e)))) ih (hn.elim (fun h => by omega) (fun h => by omega)))
end Go.Proofs.YtgbaolafedkbdaaGreatDoor.Ep
