/- The document's heap: Drop. -/
import Derived.Test.YthcilmlaoddckaaHeapRefPut
namespace Go.Proofs.Ythcilmlaoddckaa.Pg
open Go.RowKit Go.Proofs.Ythcilmlaoddckaa.Mem Go.Proofs.Ythcilmlaoddckaa.Right
set_option linter.unusedVariables false

theorem hasH_full {L : List (List Sl)} {p s : Int} (h : hasH L p s = false) : ¬ inH L p ∨ ¬ (0 ≤ s ∧ full (pageOf L p.toNat) s.toNat = true) := by
  have hn := of_decide_eq_false h
  by_cases hp : inH L p
  · exact .inr fun h2 => hn ⟨hp, h2⟩
  · exact .inl hp
theorem dropH_no {L : List (List Sl)} {p s : Int} (h : hasH L p s = false) : dropH L p s = (none, 4) := by
  unfold dropH
  rcases hasH_full h with hp | hf
  · rw [if_neg hp]
  · by_cases hp : inH L p
    · rw [if_pos hp]
      unfold dropP dropV
      rw [if_neg hf]
    · rw [if_neg hp]
theorem dropV_full {S : List Sl} {j : Nat} {d : List UInt8} (h : S[j]? = some (some d)) : dropV S (j : Int) = (some (drp S j), 0) := by
  unfold dropV
  rw [if_pos ⟨by omega, by rw [Int.toNat_natCast, full_of h]; rfl⟩, Int.toNat_natCast]
theorem dropH_yes {L : List (List Sl)} {k j : Nat} {d : List UInt8} (hk : k < L.length) (hd : (pageOf L k)[j]? = some (some d)) : dropH L (k : Int) (j : Int) = (some (trimH (L.set k (drp (pageOf L k) j))), 0) := by
  unfold dropH
  rw [if_pos ⟨by omega, by rw [Int.toNat_natCast]; exact hk⟩, Int.toNat_natCast]
  unfold dropP
  rw [dropV_full hd]
/-- The list lies beside the struct. -/
theorem RP.ne {w : World} {n₀ B g n c : Nat} {L : List (List Sl)} (h : RP w n₀ B L) (hc : w.cell? ⟨B, 0, none⟩ = some (.slice (some ⟨g, 0, none⟩) n c)) : g ≠ B := by
  obtain ⟨_, _, v, hcel, rs, _, _, hA⟩ := h
  have h0 := hcel.at_ 0
  rw [hc] at h0
  obtain rfl : v = .slice (some ⟨g, 0, none⟩) n c := by injection h0 with h0; exact h0.symm
  rcases hA with ⟨e, _⟩ | ⟨g', cap, cur, e, _, hh, _⟩
  · cases e
  · injection e with e
    injection e with e
    injection e with e
    subst e
    rintro rfl
    have := hh.symm.trans hcel
    injection this with this
    injection this with _ e2 _
    exact absurd e2 (by decide)
set_option maxRecDepth 100000 in
set_option maxHeartbeats 2000000 in
theorem drop_r (n₀ B : Nat) (L : List (List Sl)) (p s : Int) (w : World) (h : RP w n₀ B L) (x : Option (List (List Sl))) (y : Int) (hx : dropH L p s = (x, y)) :
    Calls Try.prog 24 #[.pointer (some ⟨B, 0, none⟩), .agg #[.int .i64 p, .int .i64 s]] w (RM w n₀ B (x.getD L) (.int .i64 y)) := by
  have hB0 := al (Below.refl w.heap.size w) (.cells #[.int .i64 p, .int .i64 s] 62)
  have HB0 := Lib.hid hB0
  have HZ0 := Lib.hid (Cel.new w 62 #[.int .i64 p, .int .i64 s] rfl)
  have H := Lib.hid h
  cases hh : hasH L p s with
  | false =>
    rw [dropH_no hh] at hx
    cases hx
    have HH := Lib.hid (has_any n₀ B L p s false hh _ (h.below hB0))
    clear h hh hB0
    go_enter Try.func24, Try.ntmps24
    go_wp2_with (go_at_call 39; (with_reducible refine HH.out.mono ?_); rintro e w1 ⟨rfl, hb1⟩; have HB1 := Lib.hid (Mem.on HB0.out hb1); clear hb1)
    go_ret
    exact ⟨rfl, H.out.below HB1.out, Frm.of HB1.out H.out.size⟩
  | true =>
    obtain ⟨k, j, d, rfl, rfl, hk, hj, hd⟩ := has_at hh
    rw [dropH_yes hk hd] at hx
    cases hx
    have HH := Lib.hid (has_any n₀ B L (k : Int) (j : Int) true hh _ (h.below hB0))
    have HV := Lib.hid (dropV_full hd)
    have HOK := Lib.hid (ok_page h.each k)
    have HSO := Lib.hid (dropV_yes HOK.out HV.out).1
    obtain ⟨S, hS⟩ : ∃ S, drp (pageOf L k) j = S := ⟨_, rfl⟩
    rw [hS] at HV HSO ⊢
    obtain ⟨A, c, ⟨y0, _⟩, _, hA, hc1, hc2⟩ := h.open_
    obtain ⟨g, cap, r, ev, hg, _, cg, _, hr⟩ := hA.get hk
    injection ev with e1 e2 e3
    subst e1 e3
    obtain ⟨rA, rn, rc⟩ := r
    have hrl := hr.len
    simp only at hrl hr
    have hcg : w.cell? ⟨g, k, none⟩ = some (.slice rA rn rc) := cg
    have hgw := cell_lt cg
    have HR := Lib.hid hr
    have HFZ : Hid (∀ W, Below w.heap.size w W → W.frozen? ⟨g, k, none⟩ = false ∧ W.cell? ⟨g, k, none⟩ = some (.slice rA rn rc)) := Lib.hid fun W hW => by
      obtain ⟨_, _, _, ev, _, _, _, f, _⟩ := (hA.below hW).get hk
      injection ev with ev
      injection ev with ev
      injection ev with ev
      subst ev
      exact ⟨f, (hW.cell (p := ⟨g, k, none⟩) hgw).trans hcg⟩
    have HK : Hid (∀ W, Below w.heap.size w W → W.cell? ⟨B, 0, none⟩ = some (.slice (some ⟨g, 0, none⟩) L.length c)) := Lib.hid fun W hW => (hW.cell (p := ⟨B, 0, none⟩) h.lt).trans y0
    have hkn : (k : Int) < (L.length : Int) := by omega
    obtain ⟨n, hn⟩ : ∃ n, L.length = n := ⟨_, rfl⟩
    have HN := Lib.hid hn
    rw [hn] at HK hkn
    have hgB := h.ne y0
    have hBg : B ≠ g := fun e => hgB e.symm
    have n3 : g ≠ w.heap.size := by omega
    have n4 : w.heap.size ≠ g := by omega
    have hrn : rn ≤ 1000 := by have := HOK.out.fit.room; omega
    have HRN := Lib.hid hrn
    clear h hh hA hr cg y0 hB0 hc1 hc2 hn hd hrl hS hcg
    go_enter Try.func24, Try.ntmps24
    go_upto_region 3 with (go_at_call 39; (with_reducible refine HH.out.mono ?_); rintro e w1 ⟨rfl, hb1⟩; have HB1 := Lib.hid (Mem.on HB0.out hb1); have HZ1 := Lib.hid (HZ0.out.below hb1); clear hb1)
    have z0 := HZ1.out.at_ 0
    have z1 := HZ1.out.at_ 1
    have q0 := HK.out w1 HB1.out
    obtain ⟨qf, qc⟩ := HFZ.out w1 HB1.out
    have HKW := Lib.hid (show ∀ W, Below w1.drew.heap.size w1.drew W → (W.cell? ⟨w.heap.size, 0, none⟩ = some (.int .i64 (k : Int)) ∧ W.cell? ⟨w.heap.size, 1, none⟩ = some (.int .i64 (j : Int)) ∧ W.cell? ⟨B, 0, none⟩ = some (.slice (some ⟨g, 0, none⟩) n c)) ∧ W.frozen? ⟨g, k, none⟩ = false ∧ W.cell? ⟨g, k, none⟩ = some (.slice rA rn rc) from fun W hW => by
      have hb := undraw hW
      have hz := HZ1.out.below hb
      exact ⟨⟨hz.at_ 0, hz.at_ 1, HK.out W (Mem.on HB1.out hb)⟩, HFZ.out W (Mem.on HB1.out hb)⟩)
    have HRD := Lib.hid (show RL w1.drew rA rn rc (pageOf L k) from (HR.out.below HB1.out).below (Below.refl _ _).drew)
    refine wp_region_noPanic ?_
    refine wp_region_held_drew (S := (fun W => W.cell? ⟨w.heap.size, 0, none⟩ = some (.int .i64 (k : Int)) ∧ W.cell? ⟨w.heap.size, 1, none⟩ = some (.int .i64 (j : Int)) ∧ W.cell? ⟨B, 0, none⟩ = some (.slice (some ⟨g, 0, none⟩) n c))) (by kernel_rfl) ?_ (fun hHeld => ?_)
    · first | go_keep | exact ⟨z0, z1, q0⟩
    refine wpAnyH_take (i := 0) (v := ?_) rfl (by kernel_rfl) (by kernel_rfl) (by kernel_rfl) (fun _ _ _ h => h) (Or.inl ⟨by rfl, ?_⟩) (by assumption) ?_
    rotate_left
    · intro w' hSw; (try dsimp only at hSw); (try simp only [List.getElem_toArray, List.getElem_cons_zero]); go_simp; (try with_reducible rfl)
    (try simp only [List.getElem_toArray, List.getElem_cons_zero, Act.put, List.setIfInBounds_toArray, List.set_cons_zero, List.set_cons_succ])
    refine wpAnyH_take (i := 1) (v := ?_) rfl (by kernel_rfl) (by kernel_rfl) (by kernel_rfl) (fun _ _ _ h => h) (Or.inl ⟨by rfl, ?_⟩) (by assumption) ?_
    rotate_left
    · intro w' hSw; (try dsimp only at hSw); (try simp only [List.getElem_toArray, List.getElem_cons_succ, List.getElem_cons_zero]); go_simp; (try with_reducible rfl)
    (try simp only [List.getElem_toArray, List.getElem_cons_succ, List.getElem_cons_zero, Act.put, List.setIfInBounds_toArray, List.set_cons_zero, List.set_cons_succ])
    refine wpAnyH_take (i := 2) (v := ?_) rfl (by kernel_rfl) (by kernel_rfl) (by kernel_rfl) (fun _ _ _ h => h) (Or.inl ⟨by rfl, ?_⟩) (by assumption) ?_
    rotate_left
    · intro w' hSw; (try dsimp only at hSw); (try simp only [List.getElem_toArray, List.getElem_cons_succ, List.getElem_cons_zero]); go_simp; (try with_reducible rfl)
    (try simp only [List.getElem_toArray, List.getElem_cons_succ, List.getElem_cons_zero, Act.put, List.setIfInBounds_toArray, List.set_cons_zero, List.set_cons_succ])
    refine wpAnyH_take (i := 3) (v := ?_) rfl (by kernel_rfl) (by kernel_rfl) (by kernel_rfl) (fun _ _ _ h => h) (Or.inl ⟨by rfl, ?_⟩) (by assumption) ?_
    rotate_left
    · intro w' hSw; (try dsimp only at hSw); (try simp only [List.getElem_toArray, List.getElem_cons_succ, List.getElem_cons_zero]); go_simp; (try with_reducible rfl)
    (try simp only [List.getElem_toArray, List.getElem_cons_succ, List.getElem_cons_zero, Act.put, List.setIfInBounds_toArray, List.set_cons_zero, List.set_cons_succ])
    refine wpAnyH_take (i := 4) (v := ?_) rfl (by kernel_rfl) (by kernel_rfl) (by kernel_rfl) (fun _ _ _ h => h) (Or.inl ⟨by rfl, ?_⟩) (by assumption) ?_
    rotate_left
    · intro w' hSw; (try dsimp only at hSw); (try simp only [List.getElem_toArray, List.getElem_cons_succ, List.getElem_cons_zero]); go_simp; (try with_reducible rfl)
    (try simp only [List.getElem_toArray, List.getElem_cons_succ, List.getElem_cons_zero, Act.put, List.setIfInBounds_toArray, List.set_cons_zero, List.set_cons_succ])
    refine wpAnyH_take (i := 5) (v := ?_) rfl (by kernel_rfl) (by kernel_rfl) (by kernel_rfl) (fun _ _ _ h => h) (Or.inl ⟨by rfl, ?_⟩) (by assumption) ?_
    rotate_left
    · intro w' hSw; (try dsimp only at hSw); (try simp only [List.getElem_toArray, List.getElem_cons_succ, List.getElem_cons_zero]); go_simp; (try with_reducible rfl)
    (try simp only [List.getElem_toArray, List.getElem_cons_succ, List.getElem_cons_zero, Act.put, List.setIfInBounds_toArray, List.set_cons_zero, List.set_cons_succ])
    refine wpAnyH_take (i := 6) (v := ?_) rfl (by kernel_rfl) (by kernel_rfl) (by kernel_rfl) (fun _ _ _ h => h) (Or.inl ⟨by rfl, ?_⟩) (by assumption) ?_
    rotate_left
    · intro w' hSw; (try dsimp only at hSw); (try simp only [List.getElem_toArray, List.getElem_cons_succ, List.getElem_cons_zero]); go_simp; (try with_reducible rfl)
    (try simp only [List.getElem_toArray, List.getElem_cons_succ, List.getElem_cons_zero, Act.put, List.setIfInBounds_toArray, List.set_cons_zero, List.set_cons_succ])
    refine wpAnyH_take (i := 7) (v := ?_) rfl (by kernel_rfl) (by kernel_rfl) (by kernel_rfl) (fun _ _ _ h => h) (Or.inl ⟨by rfl, ?_⟩) (by assumption) ?_
    rotate_left
    · intro w' hSw; (try dsimp only at hSw); (try simp only [List.getElem_toArray, List.getElem_cons_succ, List.getElem_cons_zero]); go_simp; (try with_reducible rfl)
    (try simp only [List.getElem_toArray, List.getElem_cons_succ, List.getElem_cons_zero, Act.put, List.setIfInBounds_toArray, List.set_cons_zero, List.set_cons_succ])
    refine wpAnyH_take (i := 8) (v := ?_) rfl (by kernel_rfl) (by kernel_rfl) (by kernel_rfl) (fun _ _ _ h => h) (Or.inl ⟨by rfl, ?_⟩) (by assumption) ?_
    rotate_left
    · intro w' hSw; (try dsimp only at hSw); (try simp only [List.getElem_toArray, List.getElem_cons_succ, List.getElem_cons_zero]); go_simp; (try with_reducible rfl)
    (try simp only [List.getElem_toArray, List.getElem_cons_succ, List.getElem_cons_zero, Act.put, List.setIfInBounds_toArray, List.set_cons_zero, List.set_cons_succ])
    refine wpAnyH_take (i := 9) (v := ?_) rfl (by kernel_rfl) (by kernel_rfl) (by kernel_rfl) (fun _ _ _ h => h) (Or.inl ⟨by rfl, ?_⟩) (by assumption) ?_
    rotate_left
    · intro w' hSw; (try dsimp only at hSw); (try simp only [List.getElem_toArray, List.getElem_cons_succ, List.getElem_cons_zero]); go_simp; (try with_reducible rfl)
    (try simp only [List.getElem_toArray, List.getElem_cons_succ, List.getElem_cons_zero, Act.put, List.setIfInBounds_toArray, List.set_cons_zero, List.set_cons_succ])
    refine wpAnyH_take (i := 10) (v := ?_) rfl (by kernel_rfl) (by kernel_rfl) (by kernel_rfl) (fun _ _ _ h => h) (Or.inl ⟨by rfl, ?_⟩) (by assumption) ?_
    rotate_left
    · intro w' hSw; (try dsimp only at hSw); (try simp only [List.getElem_toArray, List.getElem_cons_succ, List.getElem_cons_zero]); go_simp; (try with_reducible rfl)
    (try simp only [List.getElem_toArray, List.getElem_cons_succ, List.getElem_cons_zero, Act.put, List.setIfInBounds_toArray, List.set_cons_zero, List.set_cons_succ])
    refine wpAnyH_take (i := 11) (v := ?_) rfl (by kernel_rfl) (by kernel_rfl) (by kernel_rfl) (fun _ _ _ h => h) (Or.inl ⟨by rfl, ?_⟩) (by assumption) ?_
    rotate_left
    · intro w' hSw; (try dsimp only at hSw); (try simp only [List.getElem_toArray, List.getElem_cons_succ, List.getElem_cons_zero]); go_simp; (try with_reducible rfl)
    (try simp only [List.getElem_toArray, List.getElem_cons_succ, List.getElem_cons_zero, Act.put, List.setIfInBounds_toArray, List.set_cons_zero, List.set_cons_succ])
    refine wpAnyH_take (i := 12) (v := ?_) rfl (by kernel_rfl) (by kernel_rfl) (by kernel_rfl) (fun _ _ _ h => h) (Or.inl ⟨by rfl, ?_⟩) (by assumption) ?_
    rotate_left
    · intro w' hSw; (try dsimp only at hSw); (try simp only [List.getElem_toArray, List.getElem_cons_succ, List.getElem_cons_zero]); go_simp; (try with_reducible rfl)
    (try simp only [List.getElem_toArray, List.getElem_cons_succ, List.getElem_cons_zero, Act.put, List.setIfInBounds_toArray, List.set_cons_zero, List.set_cons_succ])
    refine wpAnyH_take (i := 14) (v := ?_) rfl (by kernel_rfl) (by kernel_rfl) (by kernel_rfl) (fun _ _ _ h => h) (Or.inl ⟨by rfl, ?_⟩) (by assumption) ?_
    rotate_left
    · intro w' hSw; (try dsimp only at hSw); (try simp only [List.getElem_toArray, List.getElem_cons_succ, List.getElem_cons_zero]); go_simp; (try with_reducible rfl)
    (try simp only [List.getElem_toArray, List.getElem_cons_succ, List.getElem_cons_zero, Act.put, List.setIfInBounds_toArray, List.set_cons_zero, List.set_cons_succ])
    refine wpAnyH_take (i := 15) (v := ?_) rfl (by kernel_rfl) (by kernel_rfl) (by kernel_rfl) (fun _ _ _ h => h) (Or.inl ⟨by rfl, ?_⟩) (by assumption) ?_
    rotate_left
    · intro w' hSw; (try dsimp only at hSw); (try simp only [List.getElem_toArray, List.getElem_cons_succ, List.getElem_cons_zero]); go_simp; (try with_reducible rfl)
    (try simp only [List.getElem_toArray, List.getElem_cons_succ, List.getElem_cons_zero, Act.put, List.setIfInBounds_toArray, List.set_cons_zero, List.set_cons_succ])
    refine wpAnyH_ready (rs := [13]) (by kernel_rfl) (by simp) ?_
    refine AllReadyH.cons rfl (fun K hK => ?_) AllReadyH.nil
    go_simp
    refine hK.out _ _ ?_ (fun hHeld => ?_)
    · first | go_keep | exact ⟨z0, z1, q0⟩
    clear hK K
    (try simp only [List.getElem_toArray, List.getElem_cons_succ, List.getElem_cons_zero, Act.put, List.setIfInBounds_toArray, List.set_cons_zero, List.set_cons_succ])
    refine wpAnyH_ready (rs := [16]) (by kernel_rfl) (by simp) ?_
    refine AllReadyH.cons rfl (fun K hK => ?_) AllReadyH.nil
    go_simp
    go_at_call 41; (with_reducible refine (drop_ref rA rn rc (pageOf L k) (j : Int) _ HRD.out HRN.out (some S) 0 HV.out).mono ?_); rintro e w2 ⟨⟨A3, c3, rfl, hr3⟩, hb2⟩; have HR3 := Lib.hid hr3; have HB2 := Lib.hid (Mem.on HB1.out (undraw hb2)); obtain ⟨⟨p0, p1, p2⟩, pf, pc⟩ := HKW.out w2 hb2; clear hb2 hr3
    (try go_wp2_with fail)
    refine hK.out _ _ ?_ (fun hHeld => ?_)
    · first | go_keep | exact ⟨p0, p1, p2⟩
    clear hK K
    (try simp only [List.getElem_toArray, List.getElem_cons_succ, List.getElem_cons_zero, Act.put, List.setIfInBounds_toArray, List.set_cons_zero, List.set_cons_succ])
    refine wpAnyH_take (i := 17) (v := ?_) rfl (by kernel_rfl) (by kernel_rfl) (by kernel_rfl) (fun _ _ _ h => h) (Or.inl ⟨by rfl, ?_⟩) (by assumption) ?_
    rotate_left
    · intro w' hSw; (try dsimp only at hSw); (try simp only [List.getElem_toArray, List.getElem_cons_succ, List.getElem_cons_zero]); go_simp; (try with_reducible rfl)
    (try simp only [List.getElem_toArray, List.getElem_cons_succ, List.getElem_cons_zero, Act.put, List.setIfInBounds_toArray, List.set_cons_zero, List.set_cons_succ])
    refine wpAnyH_take (i := 18) (v := ?_) rfl (by kernel_rfl) (by kernel_rfl) (by kernel_rfl) (fun _ _ _ h => h) (Or.inl ⟨by rfl, ?_⟩) (by assumption) ?_
    rotate_left
    · intro w' hSw; (try dsimp only at hSw); (try simp only [List.getElem_toArray, List.getElem_cons_succ, List.getElem_cons_zero]); go_simp; (try with_reducible rfl)
    (try simp only [List.getElem_toArray, List.getElem_cons_succ, List.getElem_cons_zero, Act.put, List.setIfInBounds_toArray, List.set_cons_zero, List.set_cons_succ])
    refine wpAnyH_take (i := 19) (v := ?_) rfl (by kernel_rfl) (by kernel_rfl) (by kernel_rfl) (fun _ _ _ h => h) (Or.inl ⟨by rfl, ?_⟩) (by assumption) ?_
    rotate_left
    · intro w' hSw; (try dsimp only at hSw); (try simp only [List.getElem_toArray, List.getElem_cons_succ, List.getElem_cons_zero]); go_simp; (try with_reducible rfl)
    (try simp only [List.getElem_toArray, List.getElem_cons_succ, List.getElem_cons_zero, Act.put, List.setIfInBounds_toArray, List.set_cons_zero, List.set_cons_succ])
    refine wpAnyH_take (i := 20) (v := ?_) rfl (by kernel_rfl) (by kernel_rfl) (by kernel_rfl) (fun _ _ _ h => h) (Or.inl ⟨by rfl, ?_⟩) (by assumption) ?_
    rotate_left
    · intro w' hSw; (try dsimp only at hSw); (try simp only [List.getElem_toArray, List.getElem_cons_succ, List.getElem_cons_zero]); go_simp; (try with_reducible rfl)
    (try simp only [List.getElem_toArray, List.getElem_cons_succ, List.getElem_cons_zero, Act.put, List.setIfInBounds_toArray, List.set_cons_zero, List.set_cons_succ])
    refine wpAnyH_ready (rs := [21]) (by kernel_rfl) (by simp) ?_
    refine AllReadyH.cons rfl (fun K hK => ?_) AllReadyH.nil
    go_simp
    refine hK.out _ _ ?_ (fun hHeld => ?_)
    · first | go_keep | exact ⟨p0, p1, p2⟩
    clear hK K
    (try simp only [List.getElem_toArray, List.getElem_cons_succ, List.getElem_cons_zero, Act.put, List.setIfInBounds_toArray, List.set_cons_zero, List.set_cons_succ])
    refine wpAnyH_done (by kernel_rfl) ?_ _
    refine NoPanic.normal ?_
    have hset := (H.out.below HB2.out).set hk (r := ⟨A3, S.length, c3⟩) HR3.out HSO.out g c (by rw [HN.out]; exact p2)
    have HS1 : Hid (RP (w2.setCell ⟨g, k, none⟩ (.slice A3 S.length c3)) n₀ B (L.set k S)) := Lib.hid hset.1
    have HS2 : Hid (Frm [72] n₀ w2 (w2.setCell ⟨g, k, none⟩ (.slice A3 S.length c3))) := Lib.hid hset.2
    clear hset
    go_wp2_with (go_at_call 42; (with_reducible refine (trim_r n₀ B (L.set k S) _ HS1.out).mono ?_); rintro e w3 ⟨rfl, hr4, hf4⟩; have HR4 := Lib.hid hr4; have HF4 := Lib.hid hf4; clear hr4 hf4)
    go_ret
    exact ⟨rfl, HR4.out, ((Frm.of HB2.out H.out.size).trans (HS2.out.more (by decide))).trans HF4.out⟩
end Go.Proofs.Ythcilmlaoddckaa.Pg
