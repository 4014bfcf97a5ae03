/- What rows.Put and Size answer: a row's bytes, or the error. -/
import Derived.Test.YtkpieiolplkifaaRowValues
import Derived.Test.YtkpieiolplkifaaRowCheck
namespace Go.Proofs.Ytkpieiolplkifaa.Rw
open Go.RowKit Go.Proofs.Ytkpieiolplkifaa.Mem Go.Proofs.Ytkpieiolplkifaa.Right
set_option linter.unusedVariables false

theorem putE_0 {num : Int} {vs : List Vl} (h : putE num vs = 0) : vs.length ≤ 6 ∧ 0 ≤ num ∧ ∀ v ∈ vs, v.ok = true := by
  unfold putE at h
  split at h
  · cases h
  · split at h
    · cases h
    · rename_i h1 h2
      refine ⟨by omega, by have : ¬ num < 0 := fun e => h2 (.inl e)
                           omega, ?_⟩
      have : vs.all Vl.ok = true := by
        cases ha : vs.all Vl.ok with
        | true => rfl
        | false => exact absurd (.inr ha) h2
      exact List.all_eq_true.1 this
theorem Came.fine {w : World} {A : Option Addr} {n : Nat} {num : Int} {vs : List Vl} (h : Came w A n num vs) (hx : putE num vs = 0) : Fine num vs := by
  obtain ⟨p1, p2, p3⟩ := putE_0 hx
  exact ⟨p2, h.2.2.2.1.2, p1, fun v hv => ⟨p3 v hv, (h.2.2.2.2 v hv).1⟩⟩
theorem putB_0 {num : Int} {vs : List Vl} (h : putE num vs = 0) : putB num vs = rowB num vs := by unfold putB; rw [if_pos h]
theorem putB_no {num : Int} {vs : List Vl} {x : Int} (h : putE num vs = x) (hx : ¬ x = 0) : putB num vs = [] := by unfold putB; rw [h, if_neg hx]
/-- What Put leaves. -/
def PutPost (w : World) (l : List UInt8) (x : Int) (e : Ending) (w' : World) : Prop := ∃ v', e = .returned (.tuple #[v', .int .i64 x]) ∧ Made w.heap.size w v' l w'
theorem rowB_is (N : Nat) (vs : List Vl) (n : Nat) (hn : vs.length = n) : ((([] ++ sm N) ++ [UInt8.ofNat n]) ++ [UInt8.ofNat (kin vs % 256), UInt8.ofNat (kin vs / 256)]) ++ valsB vs = rowB (N : Int) vs := by
  subst hn
  simp [rowB]
theorem Wr.start (w : World) {g : Nat} (hg : w.heap.size = g) : Wr w (w.alloc (.cells #[.slice none 0 0] 45)).drew g (.slice none 0 0) [] := by
  subst hg
  exact ⟨heap_alloc_new w _, World.ownsRow_nil _ _ _ _, (al (Below.refl _ _) _).drew⟩
theorem Wr.post {w w1 w2 : World} {g : Nat} {v : Value} {l : List UInt8} (h : Wr w1 w2 g v l) (hb : Below w.heap.size w w1) (hg : w1.heap.size = g) : Made w.heap.size w v l w2 := by
  have h1 := hb.size
  obtain ⟨_, ⟨a1, a2⟩, a3⟩ := h
  refine ⟨⟨a1, ?_⟩, hb.trans (a3.mono (by omega)), Nat.le_trans h1 a3.size⟩
  rcases a2 with a2 | ⟨k, cap, cur, e, hk, rest⟩
  · exact .inl a2
  · exact .inr ⟨k, cap, cur, e, by omega, rest⟩
set_option maxRecDepth 20000 in
set_option maxHeartbeats 4000000 in
theorem put_any (num : Int) (A : Option Addr) (n c : Nat) (vs : List Vl) (x : Int) (hx : putE num vs = x) (w : World) (h : Came w A n num vs) :
    Calls Try.prog 9 #[.agg #[.int .i64 num, .slice A n c]] w (PutPost w (putB num vs) x) := by
  have HC := Lib.hid (h.below (al (Below.refl w.heap.size w) (.cells #[.int .i64 num, .slice A n c] 24)))
  have HX := Lib.hid hx
  by_cases hx0 : x = 0
  · subst hx0
    have hf := h.fine hx
    obtain ⟨N, rfl⟩ : ∃ N : Nat, num = N := ⟨num.toNat, by have := hf.1; omega⟩
    have hN : N ≤ 9223372036854775807 := by have := hf.2.1; omega
    have HGD := Lib.hid (show ∀ v ∈ vs, Good v from hf.2.2.2)
    have HN := Lib.hid h.2.1
    have HR := Lib.hid (RBox.made w (N : Int) A n c)
    have h6 : n ≤ 6 := by have := hf.2.2.1; have := h.2.1; omega
    clear hf h hx
    go_enter Try.func9, Try.ntmps9
    go_wp2_with (go_at_call 12; (with_reducible refine (check_any (N : Int) A n c vs 0 HX.out _ HC.out).mono ?_); rintro e w1 ⟨rfl, hb1⟩; have HB1 := Lib.hid hb1; obtain ⟨r0, r1⟩ := (HR.out.below hb1).cells; have HCa := Lib.hid (HC.out.below hb1).1; have HLT := Lib.hid (show w.heap.size < w1.heap.size by have := hb1.size; simp at this; omega); clear hb1)
    have hne0 := World.new_ne w1 _ r0
    have HNu := Lib.hid (show N ≤ 18446744073709551615 by omega)
    have HL0 := Lib.hid (show ([] : List UInt8).length ≤ 100000 by simp)
    have HS0 := Lib.hid (sm_len N 0 (by decide) (by rw [lim_0]; omega))
    have HL1 := Lib.hid (show ([] ++ sm N).length ≤ 1000000 by have := HS0.out; simp; omega)
    have HC1 := Lib.hid (show (n : Int) % 256 = ((UInt8.ofNat n).toNat : Int) by rw [ofNat_small (by omega)]; omega)
    have HL2 := Lib.hid (show (([] ++ sm N) ++ [UInt8.ofNat n]).length ≤ 100000 by have := HS0.out; simp; omega)
    have HL3 := Lib.hid (show ((([] ++ sm N) ++ [UInt8.ofNat n]) ++ [UInt8.ofNat (kin vs % 256), UInt8.ofNat (kin vs / 256)]).length ≤ 90000 by have := HS0.out; simp; omega)
    have HRB := Lib.hid (rowB_is N vs n HN.out)
    have hwr : IntKind.u64.wrap (N : Int) = (N : Int) := by rw [IntKind.wrap_u64]; omega
    refine wp_region_noPanic ?_
    refine wp_region_held_drew (S := (fun w' => w'.cell? ⟨w.heap.size, 0, none⟩ = some (.int .i64 N) ∧ w'.cell? ⟨w.heap.size, 1, none⟩ = some (.slice A n c))) (by kernel_rfl) ?_ (fun hHeld => ?_)
    · exact ⟨r0, r1⟩
    refine wpAnyH_take (i := 1) (v := ?_) rfl (by kernel_rfl) (by kernel_rfl) (by kernel_rfl) (fun _ _ _ h => h) (Or.inl ⟨by rfl, ?_⟩) (by assumption) ?_
    rotate_left
    · intro w' hSw; (try dsimp only at hSw); (try simp only [List.getElem_toArray, List.getElem_cons_succ, List.getElem_cons_zero]); go_simp; (try with_reducible rfl)
    (try simp only [List.getElem_toArray, List.getElem_cons_succ, List.getElem_cons_zero, Act.put, List.setIfInBounds_toArray, List.set_cons_zero, List.set_cons_succ])
    refine wpAnyH_take (i := 2) (v := ?_) rfl (by kernel_rfl) (by kernel_rfl) (by kernel_rfl) (fun _ _ _ h => h) (Or.inl ⟨by rfl, ?_⟩) (by assumption) ?_
    rotate_left
    · intro w' hSw; (try dsimp only at hSw); (try simp only [List.getElem_toArray, List.getElem_cons_succ, List.getElem_cons_zero]); go_simp; (try with_reducible rfl)
    (try simp only [List.getElem_toArray, List.getElem_cons_succ, List.getElem_cons_zero, Act.put, List.setIfInBounds_toArray, List.set_cons_zero, List.set_cons_succ])
    refine wpAnyH_take (i := 3) (v := ?_) rfl (by kernel_rfl) (by kernel_rfl) (by kernel_rfl) (fun _ _ _ h => h) (Or.inl ⟨by rfl, ?_⟩) (by assumption) ?_
    rotate_left
    · intro w' hSw; (try dsimp only at hSw); (try simp only [List.getElem_toArray, List.getElem_cons_succ, List.getElem_cons_zero]); go_simp; (try with_reducible rfl)
    (try simp only [List.getElem_toArray, List.getElem_cons_succ, List.getElem_cons_zero, Act.put, List.setIfInBounds_toArray, List.set_cons_zero, List.set_cons_succ])
    refine wpAnyH_take (i := 5) (v := ?_) rfl (by kernel_rfl) (by kernel_rfl) (by kernel_rfl) (fun _ _ _ h => h) (Or.inl ⟨by rfl, ?_⟩) (by assumption) ?_
    rotate_left
    · intro w' hSw; (try dsimp only at hSw); (try simp only [List.getElem_toArray, List.getElem_cons_succ, List.getElem_cons_zero]); go_simp; (try with_reducible rfl)
    (try simp only [List.getElem_toArray, List.getElem_cons_succ, List.getElem_cons_zero, Act.put, List.setIfInBounds_toArray, List.set_cons_zero, List.set_cons_succ])
    refine wpAnyH_take (i := 6) (v := ?_) rfl (by kernel_rfl) (by kernel_rfl) (by kernel_rfl) (fun _ _ _ h => h) (Or.inl ⟨by rfl, ?_⟩) (by assumption) ?_
    rotate_left
    · intro w' hSw; (try dsimp only at hSw); (try simp only [List.getElem_toArray, List.getElem_cons_succ, List.getElem_cons_zero]); go_simp; (try with_reducible rfl)
    (try simp only [List.getElem_toArray, List.getElem_cons_succ, List.getElem_cons_zero, Act.put, List.setIfInBounds_toArray, List.set_cons_zero, List.set_cons_succ])
    refine wpAnyH_take (i := 7) (v := ?_) rfl (by kernel_rfl) (by kernel_rfl) (by kernel_rfl) (fun _ _ _ h => h) (Or.inl ⟨by rfl, ?_⟩) (by assumption) ?_
    rotate_left
    · intro w' hSw; (try dsimp only at hSw); (try simp only [List.getElem_toArray, List.getElem_cons_succ, List.getElem_cons_zero]); go_simp; (try with_reducible rfl)
    (try simp only [List.getElem_toArray, List.getElem_cons_succ, List.getElem_cons_zero, Act.put, List.setIfInBounds_toArray, List.set_cons_zero, List.set_cons_succ])
    refine wpAnyH_take (i := 9) (v := ?_) rfl (by kernel_rfl) (by kernel_rfl) (by kernel_rfl) (fun _ _ _ h => h) (Or.inl ⟨by rfl, ?_⟩) (by assumption) ?_
    rotate_left
    · intro w' hSw; (try dsimp only at hSw); (try simp only [List.getElem_toArray, List.getElem_cons_succ, List.getElem_cons_zero]); go_simp; (try with_reducible rfl)
    (try simp only [List.getElem_toArray, List.getElem_cons_succ, List.getElem_cons_zero, Act.put, List.setIfInBounds_toArray, List.set_cons_zero, List.set_cons_succ])
    refine wpAnyH_take (i := 10) (v := ?_) rfl (by kernel_rfl) (by kernel_rfl) (by kernel_rfl) (fun _ _ _ h => h) (Or.inl ⟨by rfl, ?_⟩) (by assumption) ?_
    rotate_left
    · intro w' hSw; (try dsimp only at hSw); (try simp only [List.getElem_toArray, List.getElem_cons_succ, List.getElem_cons_zero]); go_simp; (try with_reducible rfl)
    (try simp only [List.getElem_toArray, List.getElem_cons_succ, List.getElem_cons_zero, Act.put, List.setIfInBounds_toArray, List.set_cons_zero, List.set_cons_succ])
    refine wpAnyH_take (i := 12) (v := ?_) rfl (by kernel_rfl) (by kernel_rfl) (by kernel_rfl) (fun _ _ _ h => h) (Or.inl ⟨by rfl, ?_⟩) (by assumption) ?_
    rotate_left
    · intro w' hSw; (try dsimp only at hSw); (try simp only [List.getElem_toArray, List.getElem_cons_succ, List.getElem_cons_zero]); go_simp; (try with_reducible rfl)
    (try simp only [List.getElem_toArray, List.getElem_cons_succ, List.getElem_cons_zero, Act.put, List.setIfInBounds_toArray, List.set_cons_zero, List.set_cons_succ])
    refine wpAnyH_take (i := 13) (v := ?_) rfl (by kernel_rfl) (by kernel_rfl) (by kernel_rfl) (fun _ _ _ h => h) (Or.inl ⟨by rfl, ?_⟩) (by assumption) ?_
    rotate_left
    · intro w' hSw; (try dsimp only at hSw); (try simp only [List.getElem_toArray, List.getElem_cons_succ, List.getElem_cons_zero]); go_simp; (try with_reducible rfl)
    (try simp only [List.getElem_toArray, List.getElem_cons_succ, List.getElem_cons_zero, Act.put, List.setIfInBounds_toArray, List.set_cons_zero, List.set_cons_succ])
    refine wpAnyH_ready (rs := [0]) (by kernel_rfl) (by simp) ?_
    refine AllReadyH.cons rfl (fun K hK => ?_) AllReadyH.nil
    go_simp
    refine hK.out _ _ ?_ (fun hHeld => ?_)
    · go_keep
    clear hK K
    (try simp only [List.getElem_toArray, List.getElem_cons_succ, List.getElem_cons_zero, Act.put, List.setIfInBounds_toArray, List.set_cons_zero, List.set_cons_succ])
    refine wpAnyH_ready (rs := [4]) (by kernel_rfl) (by simp) ?_
    refine AllReadyH.cons rfl (fun K hK => ?_) AllReadyH.nil
    go_simp
    go_at_call 18; (with_reducible refine (small_any w1 w1.heap.size _ [] N _ HNu.out HL0.out (Wr.start w1 rfl)).mono ?_); rintro e w2 ⟨v2, rfl, hw⟩; have HW1 := Lib.hid hw; clear hw
    (try go_wp2_with fail)
    refine hK.out _ _ ?_ (fun hHeld => ?_)
    · exact ⟨(HW1.out.2.2.cell HLT.out).trans r0, (HW1.out.2.2.cell HLT.out).trans r1⟩
    clear hK K
    (try simp only [List.getElem_toArray, List.getElem_cons_succ, List.getElem_cons_zero, Act.put, List.setIfInBounds_toArray, List.set_cons_zero, List.set_cons_succ])
    refine wpAnyH_ready (rs := [8]) (by kernel_rfl) (by simp) ?_
    refine AllReadyH.cons rfl (fun K hK => ?_) AllReadyH.nil
    go_simp
    go_at_call 19; (with_reducible refine (one_any w1 w1.heap.size _ _ (UInt8.ofNat n) (n : Int) _ HC1.out HL1.out HW1.out).mono ?_); rintro e w3 ⟨v3, rfl, hw, -⟩; have HW2 := Lib.hid hw; clear hw
    (try go_wp2_with fail)
    refine hK.out _ _ ?_ (fun hHeld => ?_)
    · exact ⟨(HW2.out.2.2.cell HLT.out).trans r0, (HW2.out.2.2.cell HLT.out).trans r1⟩
    clear hK K
    (try simp only [List.getElem_toArray, List.getElem_cons_succ, List.getElem_cons_zero, Act.put, List.setIfInBounds_toArray, List.set_cons_zero, List.set_cons_succ])
    refine wpAnyH_ready (rs := [11]) (by kernel_rfl) (by simp) ?_
    refine AllReadyH.cons rfl (fun K hK => ?_) AllReadyH.nil
    go_simp
    go_at_call 20; (with_reducible refine (kinds_any w1 w1.heap.size _ _ A n c vs _ HN.out h6 HL2.out HW2.out HCa.out HGD.out).mono ?_); rintro e w4 ⟨v4, rfl, hw⟩; have HW3 := Lib.hid hw; clear hw
    (try go_wp2_with fail)
    refine hK.out _ _ ?_ (fun hHeld => ?_)
    · exact ⟨(HW3.out.2.2.cell HLT.out).trans r0, (HW3.out.2.2.cell HLT.out).trans r1⟩
    clear hK K
    (try simp only [List.getElem_toArray, List.getElem_cons_succ, List.getElem_cons_zero, Act.put, List.setIfInBounds_toArray, List.set_cons_zero, List.set_cons_succ])
    refine wpAnyH_ready (rs := [14]) (by kernel_rfl) (by simp) ?_
    refine AllReadyH.cons rfl (fun K hK => ?_) AllReadyH.nil
    go_simp
    go_at_call 21; (with_reducible refine (values_any w1 w1.heap.size _ _ A n c vs _ HN.out h6 HL3.out HW3.out HCa.out HGD.out).mono ?_); rintro e w5 ⟨v5, rfl, hw⟩; have HW4 := Lib.hid hw; obtain ⟨d0, -⟩ := hw.cells; clear hw
    (try go_wp2_with fail)
    refine hK.out _ _ ?_ (fun hHeld => ?_)
    · exact ⟨(HW4.out.2.2.cell HLT.out).trans r0, (HW4.out.2.2.cell HLT.out).trans r1⟩
    clear hK K
    (try simp only [List.getElem_toArray, List.getElem_cons_succ, List.getElem_cons_zero, Act.put, List.setIfInBounds_toArray, List.set_cons_zero, List.set_cons_succ])
    refine wpAnyH_take (i := 15) (v := ?_) rfl (by kernel_rfl) (by kernel_rfl) (by kernel_rfl) (fun _ _ _ h => h) (Or.inl ⟨by rfl, ?_⟩) (by assumption) ?_
    rotate_left
    · intro w' hSw; (try dsimp only at hSw); (try simp only [List.getElem_toArray, List.getElem_cons_succ, List.getElem_cons_zero]); go_simp; (try with_reducible rfl)
    (try simp only [List.getElem_toArray, List.getElem_cons_succ, List.getElem_cons_zero, Act.put, List.setIfInBounds_toArray, List.set_cons_zero, List.set_cons_succ])
    refine wpAnyH_take (i := 16) (v := ?_) rfl (by kernel_rfl) (by kernel_rfl) (by kernel_rfl) (fun _ _ _ h => h) (Or.inl ⟨by rfl, ?_⟩) (by assumption) ?_
    rotate_left
    · intro w' hSw; (try dsimp only at hSw); (try simp only [List.getElem_toArray, List.getElem_cons_succ, List.getElem_cons_zero]); go_simp; (try with_reducible rfl)
    (try simp only [List.getElem_toArray, List.getElem_cons_succ, List.getElem_cons_zero, Act.put, List.setIfInBounds_toArray, List.set_cons_zero, List.set_cons_succ])
    refine wpAnyH_ready (rs := [17]) (by kernel_rfl) (by simp) ?_
    refine AllReadyH.cons rfl (fun K hK => ?_) AllReadyH.nil
    go_simp
    refine hK.out _ _ ?_ (fun hHeld => ?_)
    · exact hHeld
    clear hK K
    (try simp only [List.getElem_toArray, List.getElem_cons_succ, List.getElem_cons_zero, Act.put, List.setIfInBounds_toArray, List.set_cons_zero, List.set_cons_succ])
    refine wpAnyH_take (i := 18) (v := ?_) rfl (by kernel_rfl) (by kernel_rfl) (by kernel_rfl) (fun _ _ _ h => h) (Or.inl ⟨by rfl, ?_⟩) (by assumption) ?_
    rotate_left
    · intro w' hSw; (try dsimp only at hSw); (try simp only [List.getElem_toArray, List.getElem_cons_succ, List.getElem_cons_zero]); go_simp; (try with_reducible rfl)
    (try simp only [List.getElem_toArray, List.getElem_cons_succ, List.getElem_cons_zero, Act.put, List.setIfInBounds_toArray, List.set_cons_zero, List.set_cons_succ])
    refine wpAnyH_take (i := 19) (v := ?_) rfl (by kernel_rfl) (by kernel_rfl) (by kernel_rfl) (fun _ _ _ h => h) (Or.inl ⟨by rfl, ?_⟩) (by assumption) ?_
    rotate_left
    · intro w' hSw; (try dsimp only at hSw); (try simp only [List.getElem_toArray, List.getElem_cons_succ, List.getElem_cons_zero]); go_simp; (try with_reducible rfl)
    (try simp only [List.getElem_toArray, List.getElem_cons_succ, List.getElem_cons_zero, Act.put, List.setIfInBounds_toArray, List.set_cons_zero, List.set_cons_succ])
    refine wpAnyH_done (by kernel_rfl) ?_ _
    refine NoPanic.normal ?_
    go_wp2
    go_ret2
    exact ⟨v5, rfl, by rw [putB_0 HX.out, ← HRB.out]; exact HW4.out.post (on (al (Below.refl w.heap.size w) _) HB1.out) rfl⟩
  · have t := bne_yes hx0
    have HP := Lib.hid (putB_no hx hx0)
    clear h hx hx0
    go_enter Try.func9, Try.ntmps9
    go_wp2_with (go_at_call 12; (with_reducible refine (check_any num A n c vs x HX.out _ HC.out).mono ?_); rintro e w1 ⟨rfl, hb1⟩; have HB1 := Lib.hid (on (al (Below.refl w.heap.size w) _) hb1); clear hb1)
    go_ret2
    exact ⟨_, rfl, by rw [HP.out]; exact Made.start HB1.out⟩
end Go.Proofs.Ytkpieiolplkifaa.Rw
