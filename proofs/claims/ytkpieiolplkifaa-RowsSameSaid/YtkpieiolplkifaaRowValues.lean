/- What a writer's values writes. -/
import Derived.Test.YtkpieiolplkifaaRowKinds
import Derived.Deep.RegionHeld3
namespace Go.Proofs.Ytkpieiolplkifaa.Rw
open Go.RowKit Go.Proofs.Ytkpieiolplkifaa.Mem Go.Proofs.Ytkpieiolplkifaa.Right
set_option linter.unusedVariables false

theorem valsB_snoc (vs : List Vl) (v : Vl) : valsB (vs ++ [v]) = valsB vs ++ valB v := by simp [valsB]
theorem good_len {v : Vl} (h : Good v) : (valB v).length ≤ 33 := by
  rcases ok_cases h.1 with ⟨hk, _⟩ | ⟨hk, _⟩ | ⟨hk, _⟩ | ⟨hk, _, hl, _⟩
  · rw [valB_0 hk]; simp
  · rw [valB_1 hk]
    have := sm_len _ 0 (by decide) (zz_lt h.2)
    omega
  · rw [valB_2 hk]; simp
  · rw [valB_3 hk, List.length_cons]; omega
theorem vals_len : ∀ {vs : List Vl}, (∀ v ∈ vs, Good v) → (valsB vs).length ≤ 33 * vs.length
  | [], _ => by simp [valsB]
  | v :: r, h => by
    have h1 := good_len (h v (by simp))
    have h2 := vals_len (vs := r) fun u hu => h u (List.mem_cons_of_mem _ hu)
    unfold valsB at h2 ⊢
    rw [List.flatMap_cons, List.length_append, List.length_cons]
    omega
theorem Wr.drew {W w : World} {g : Nat} {v : Value} {l : List UInt8} (h : Wr W w g v l) : Wr W w.drew g v l := ⟨h.1, h.2.1, h.2.2.drew⟩
theorem own_not {W w : World} {g : Nat} {v : Value} {l : List UInt8} (h : Wr W w g v l) : v.ownBlock ≠ some w.heap.size := fun e => by
  have := (h.2.1.lt _ e).2
  omega
set_option maxRecDepth 20000 in
set_option maxHeartbeats 2000000 in
theorem values_any (W : World) (g : Nat) (v : Value) (l : List UInt8) (A : Option Addr) (n c : Nat) (vs : List Vl) (w : World) (hn : vs.length = n) (h6 : n ≤ 6) (hl : l.length ≤ 90000) (h : Wr W w g v l) (hv : Vals W g A vs) (hk : ∀ u ∈ vs, Good u) :
    Calls Try.prog 21 #[.pointer (some ⟨g, 0, none⟩), .slice A n c] w (Put0 W g (l ++ valsB vs)) := by
  have H := Lib.hid h
  have HV := Lib.hid hv
  have HN := Lib.hid hn
  have HK := Lib.hid hk
  have HL := Lib.hid hl
  clear h hv hn hk hl
  go_enter Try.func21, Try.ntmps21
  go_wp2
  go_loopw [9] (fun i wr => ∃ (k : Nat) (v1 : Value), k ≤ n ∧ i = .int .i64 k ∧ Hid (Wr W wr g v1 (l ++ valsB (vs.take k)))) (fun i _ => n - (intOf i).toNat)
  case atStart => exact ⟨0, v, Nat.zero_le _, rfl, Lib.hid (by simpa [valsB] using H.out)⟩
  case round =>
    obtain ⟨k, v1, hk, rfl, HW⟩ := hrel
    by_cases hlt : k < n
    · obtain ⟨b, o, ⟨uk, un, us⟩, rfl, hb, hu, u0, u1, u2⟩ := (HV.out.below HW.out.2.2 (Nat.le_refl _)).at_ (k := k) (by have := HN.out; omega)
      have hgd := HK.out _ (List.mem_of_getElem? hu)
      have hin := hgd.2
      have HT := Lib.hid (show l ++ valsB (vs.take (k + 1)) = (l ++ valsB (vs.take k)) ++ valB ⟨uk, un, us⟩ by rw [take_more hu, valsB_snoc, List.append_assoc])
      have HLl := Lib.hid (show (l ++ valsB (vs.take k)).length ≤ 90300 by
        have h1 := vals_len (vs := vs.take k) fun u hu => HK.out u (List.mem_of_mem_take hu)
        have h2 := List.length_take_le k vs
        have h3 := HL.out
        rw [List.length_append]; omega)
      generalize l ++ valsB (vs.take k) = lk at HW HT HLl
      have HWa := Lib.hid (HW.out.below (al (Below.refl _ _) (.cells #[.int .i64 uk, .int .i64 un, .string us] 43)))
      have hlt' : (k : Int) < (n : Int) := by omega
      simp only at u0 u1 u2
      rcases ok_cases hgd.1 with ⟨hk0, -, -⟩ | ⟨hk1, -⟩ | ⟨hk2, hn2, -⟩ | ⟨hk3, hn3, hl3, -⟩
      · simp only at hk0
        subst hk0
        have HE := Lib.hid (show l ++ valsB (vs.take (k + 1)) = lk by rw [HT.out, valB_0 rfl, List.append_nil])
        clear hu hgd hin
        go_wp2
        go_roundw
        case rel => exact ⟨k + 1, _, by omega, by go_num, Lib.hid (by rw [HE.out]; exact HWa.out)⟩
        case measure => simp [intOf]; omega
      · simp only at hk1
        subst hk1
        have HE := Lib.hid (show l ++ valsB (vs.take (k + 1)) = lk ++ sm (zz un) by rw [HT.out, valB_1 rfl])
        have HL1 := Lib.hid (show lk.length ≤ 100000 by have := HLl.out; omega)
        have HZ := Lib.hid (show zz un ≤ 18446744073709551615 by have := zz_lt hin; rw [lim_0] at this; simp only at this; omega)
        have HI := Lib.hid (show -9223372036854775808 ≤ un ∧ un ≤ 9223372036854775807 from hin)
        clear hu hgd hin
        go_wp2_with (first | (go_at_call 34; (with_reducible refine (turned_any un _ HI.out.1 HI.out.2).mono ?_); rintro e w' ⟨rfl, rfl⟩) | (go_at_call 18; (with_reducible refine (small_any W g _ lk (zz un) _ HZ.out HL1.out HWa.out).mono ?_); rintro e w1 ⟨v2, rfl, hw⟩; have HW1 := Lib.hid hw; clear hw))
        go_roundw
        case rel => exact ⟨k + 1, _, by omega, by go_num, Lib.hid (by rw [HE.out]; exact HW1.out)⟩
        case measure => simp [intOf]; omega
      · simp only at hk2 hn2
        subst hk2
        have HE := Lib.hid (show l ++ valsB (vs.take (k + 1)) = lk ++ [UInt8.ofNat un.toNat] by rw [HT.out, valB_2 rfl])
        have HL1 := Lib.hid (show lk.length ≤ 1000000 by have := HLl.out; omega)
        have HC := Lib.hid (show un % 256 = ((UInt8.ofNat un.toNat).toNat : Int) by rw [ofNat_small (by omega)]; omega)
        clear hu hgd hin hn2
        go_wp2_with (go_at_call 19; (with_reducible refine (one_any W g _ lk (UInt8.ofNat un.toNat) un _ HC.out HL1.out HWa.out).mono ?_); rintro e w1 ⟨v2, rfl, hw, _⟩; have HW1 := Lib.hid hw; clear hw)
        go_roundw
        case rel => exact ⟨k + 1, _, by omega, by go_num, Lib.hid (by rw [HE.out]; exact HW1.out)⟩
        case measure => simp [intOf]; omega
      · simp only at hk3 hn3
        subst hk3 hn3
        have hsz : us.data.toList.length = us.size := by rw [Array.length_toList]; rfl
        have hs32 : us.size ≤ 32 := by rw [← hsz]; exact hl3
        have HE := Lib.hid (show l ++ valsB (vs.take (k + 1)) = (lk ++ [UInt8.ofNat us.size]) ++ us.data.toList by
          rw [HT.out, valB_3 rfl, List.append_assoc, ← hsz]; rfl)
        have HL1 := Lib.hid (show lk.length ≤ 1000000 by have := HLl.out; omega)
        have HL2 := Lib.hid (show (lk ++ [UInt8.ofNat us.size]).length ≤ 1000000 by have := HLl.out; simp; omega)
        have HC := Lib.hid (show (us.size : Int) % 256 = ((UInt8.ofNat us.size).toNat : Int) by rw [ofNat_small (by omega)]; omega)
        have HS := Lib.hid (show us.size ≤ 1000 by omega)
        have HG := Lib.hid (show ¬ wr.heap.size = g by have := HW.out.lt; omega)
        have HO := Lib.hid (own_not HW.out)
        clear hu hgd hin hl3 hsz
        go_wp2
        go_region_held3 (fun w' => w'.cell? ⟨wr.heap.size, 2, none⟩ = some (.string us))
          (first | go_keep | exact HQ1.out.cell (by assumption) HG.out HO.out | exact HQ2.out.cell (by assumption) HG.out HO1.out)
          (first | (go_simp; go_at_call 19; (with_reducible refine (one_any W g _ lk (UInt8.ofNat us.size) (us.size : Int) _ HC.out HL1.out HWa.out.drew).mono ?_); rintro e w1 ⟨v2, rfl, hw, hq⟩; have HW1 := Lib.hid hw; have HQ1 := Lib.hid hq; have HO1 := Lib.hid (hq.ne (by simp) HO.out); clear hw hq) | (go_simp; go_at_call 35; (with_reducible refine (text_any W g _ _ us _ HS.out HL2.out HW1.out).mono ?_); rintro e w2 ⟨v3, rfl, hw, hq⟩; have HW2 := Lib.hid hw; have HQ2 := Lib.hid hq; clear hw hq))
        go_wp2
        go_roundw
        case rel => exact ⟨k + 1, _, by omega, by go_num, Lib.hid (by rw [HE.out]; exact HW2.out)⟩
        case measure => simp [intOf]; omega
    · have HE := Lib.hid (show l ++ valsB (vs.take k) = l ++ valsB vs by rw [List.take_of_length_le (by have := HN.out; omega)])
      go_wp2
      go_ret
      exact ⟨v1, rfl, by rw [← HE.out]; exact HW.out⟩
end Go.Proofs.Ytkpieiolplkifaa.Rw
