/- What the document's Put answers: the sum of the kinds. -/
import Derived.Test.YtkpieiolplkifaaRowRefSmall
import Derived.Deep.RegionHeld3
namespace Go.Proofs.Ytkpieiolplkifaa.Rw
open Go.RowKit Go.Proofs.Ytkpieiolplkifaa.Mem Go.Proofs.Ytkpieiolplkifaa.Right
set_option linter.unusedVariables false

theorem Box.kept {w w' : World} {g : Nat} {k n : Int} {s : ByteArray} {v : Value} (h : Box w g k n s) (hg : w.grownBy w' v.ownBlock) (hne : v.ownBlock ≠ some g) : Box w' g k n s := h.grown hg hne
theorem ne_on {v v' : Value} {g z : Nat} (e : v'.ownBlock = v.ownBlock ∨ ∃ g', v'.ownBlock = some g' ∧ z ≤ g') (h : v.ownBlock ≠ some g) (hz : g < z) : v'.ownBlock ≠ some g := by
  rcases e with e | ⟨y, e, hy⟩
  · rw [e]; exact h
  · rw [e]; intro e2; injection e2 with e2; omega
theorem made_ne {B : Nat} {W w : World} {v : Value} {l : List UInt8} (h : Made B W v l w) : v.ownBlock ≠ some w.heap.size := fun e => by
  have := (h.1.lt _ e).2
  omega
theorem kin_drop {vs : List Vl} {j : Nat} {v : Vl} (h : vs[j]? = some v) : kin (vs.drop j) = v.k.toNat + 4 * kin (vs.drop (j + 1)) := by rw [drop_at h, kin]
theorem kin_drop_lt {vs : List Vl} (h : ∀ u ∈ vs, Good u) (j : Nat) (h6 : vs.length ≤ 6) : kin (vs.drop j) < 4096 := by
  have h1 := kin_lt (vs := vs.drop j) fun u hu => h u (List.mem_of_mem_drop hu)
  have h2 := pow_le (show (vs.drop j).length ≤ 6 by rw [List.length_drop]; omega)
  omega
set_option maxRecDepth 100000 in
set_option maxHeartbeats 8000000 in
theorem refPut_good (N : Nat) (A : Option Addr) (n c : Nat) (vs : List Vl) (w : World) (hx : putE (N : Int) vs = 0) (h : Came w A n N vs) :
    Calls Try.prog 10 #[.agg #[.int .i64 N, .slice A n c]] w (PutPost w (rowB N vs) 0) := by
  have hf := h.fine hx
  have hN : N ≤ 9223372036854775807 := by have := hf.2.1; omega
  have h6 : n ≤ 6 := by have := hf.2.2.1; have := h.2.1; omega
  have HGD := Lib.hid (show ∀ v ∈ vs, Good v from hf.2.2.2)
  have HN := Lib.hid h.2.1
  have HX := Lib.hid hx
  have HV := Lib.hid h.1
  obtain ⟨W1, hW1⟩ : ∃ W1, w.alloc (.cells #[.int .i64 (N : Int), .slice A n c] 24) = W1 := ⟨_, rfl⟩
  have HR := Lib.hid (show RBox W1 w.heap.size N A n c by rw [← hW1]; exact RBox.made _ _ _ _ _)
  have HB0 := Lib.hid (show Below w.heap.size w W1 by rw [← hW1]; exact al (Below.refl _ _) _)
  have HC := Lib.hid (h.below HB0.out)
  have HLT := Lib.hid (show w.heap.size < W1.heap.size by rw [← hW1]; simp)
  have HW := Lib.hid hW1
  clear hf h hx hW1
  go_enter Try.func10, Try.ntmps10
  go_wp2_with (go_at_call 13; rw [HW.out]; (with_reducible refine (refCheck_any (N : Int) A n c vs 0 HX.out _ HC.out).mono ?_); rintro e w1 ⟨rfl, hb1⟩; have HB1 := Lib.hid hb1; have HR1 := Lib.hid (HR.out.below hb1); obtain ⟨r0, r1⟩ := HR1.out.cells; clear hb1)
  go_loop [5, 6] (fun s i => ∃ (z : Int) (S : Nat), -1 ≤ z ∧ z < n ∧ i = .int .i64 z ∧ s = .int .i64 S ∧ S ≤ 4095 ∧ Hid (S = kin (vs.drop (z + 1).toNat))) (fun _ i => (intOf i + 1).toNat)
  case atStart => exact ⟨(n : Int) - 1, 0, by omega, by omega, rfl, rfl, by decide, Lib.hid (by rw [List.drop_eq_nil_of_le (by have := HN.out; omega)]; rfl)⟩
  case round =>
    obtain ⟨z, S, hz, hzn, rfl, rfl, hS, HS⟩ := hrel
    by_cases hz0 : 0 ≤ z
    · obtain ⟨k, rfl⟩ : ∃ k : Nat, z = k := ⟨z.toNat, by omega⟩
      obtain ⟨b, o, u, rfl, hb, hu, u0, u1, u2⟩ := (HV.out.below (on HB0.out HB1.out) (Nat.le_refl _)).at_ (k := k) (by have := HN.out; omega)
      obtain ⟨hk0, hk4⟩ := good_k (HGD.out u (List.mem_of_getElem? hu))
      have HS1 := Lib.hid (show u.k.toNat + 4 * S = kin (vs.drop ((k : Int) - 1 + 1).toNat) by
        rw [show ((k : Int) - 1 + 1).toNat = k by omega, kin_drop hu, HS.out, show ((k : Int) + 1).toNat = k + 1 by omega])
      have hS1 : u.k.toNat + 4 * S ≤ 4095 := by
        have := kin_drop_lt HGD.out ((k : Int) - 1 + 1).toNat (by have := HN.out; omega)
        have := HS1.out
        omega
      have HVal := Lib.hid (show Value.int .i64 (4 * (S : Int) + u.k) = .int .i64 ((u.k.toNat + 4 * S : Nat) : Int) by
        rw [show 4 * (S : Int) + u.k = ((u.k.toNat + 4 * S : Nat) : Int) by omega])
      clear hu
      go_wp2
      go_round
      case rel => exact ⟨(k : Int) - 1, _, by omega, by omega, rfl, HVal.out, hS1, HS1⟩
      case measure => simp [intOf]
    · have HS1 := Lib.hid (show S = kin vs by
        have := HS.out
        rwa [show (z + 1).toNat = 0 by omega] at this)
      have HNu := Lib.hid (show N ≤ 18446744073709551615 by omega)
      have hne0 := World.new_ne w1 _ r0
      have HAR := Lib.hid (show [Value.int .u8 (n : Int), .int .u8 ((S : Int) % 256), .int .u8 ((S : Int) / 256)] = bys [UInt8.ofNat n, UInt8.ofNat (S % 256), UInt8.ofNat (S / 256)] by
        unfold bys
        rw [show ((S : Int) % 256) = ((UInt8.ofNat (S % 256)).toNat : Int) by rw [ofNat_small (by omega)]; omega, show ((S : Int) / 256) = ((UInt8.ofNat (S / 256)).toNat : Int) by rw [ofNat_small (by omega)]; omega, show (n : Int) = ((UInt8.ofNat n).toNat : Int) by rw [ofNat_small (by omega)]]
        simp)
      have HP3 := Lib.hid (show (0 : Nat) < 3 by decide)
      have HL3 := Lib.hid (show (sm N).length + 3 ≤ 2000000 by
        have := sm_len N 0 (by decide) (by rw [lim_0]; omega)
        omega)
      go_wp2
      have hwr : IntKind.u64.wrap (N : Int) = (N : Int) := by rw [IntKind.wrap_u64]; omega
      have hwa : IntKind.u8.wrap (n : Int) = (n : Int) := by rw [wrap_u8]; omega
      have hwb : (S : Int).tmod 256 = (S : Int) % 256 := Int.tmod_eq_emod_of_nonneg (by omega)
      have hwc : IntKind.u8.wrap ((S : Int) % 256) = (S : Int) % 256 := by rw [wrap_u8]; omega
      have hwd : IntKind.i64.wrap ((S : Int) / 256) = (S : Int) / 256 := by rw [IntKind.wrap_i64]; omega
      have hwe : IntKind.u8.wrap ((S : Int) / 256) = (S : Int) / 256 := by rw [wrap_u8]; omega
      go_region_held3 (fun w' => w'.cell? ⟨w.heap.size, 0, none⟩ = some (.int .i64 N) ∧ w'.cell? ⟨w.heap.size, 1, none⟩ = some (.slice A n c))
        (first | go_keep | exact HD4.out | exact HD3.out)
        (first | (go_simp; go_at_call 22; (with_reducible refine (refSmall_all N w1.drew HNu.out).mono ?_); rintro e w3 ⟨v3, rfl, m3⟩; have M3 := Lib.hid (m3.base (HB1.out.drew) HB1.out.size); have HD3 := Lib.hid (HR.out.below M3.out.2.1).cells; clear m3) | (go_simp; go_at_call 22; (with_reducible refine (refSmall_all N (w1.alloc _).drew HNu.out).mono ?_); rintro e w3 ⟨v3, rfl, m3⟩; have M3 := Lib.hid (m3.base ((on HB1.out (al (Below.refl _ _) _)).drew) (Nat.le_trans HB1.out.size (by simp))); have HLT3 := Lib.hid ((m3.2.1.block w1.heap.size (by simp)).trans (heap_alloc_new w1 _)); have HD3 := Lib.hid (HR.out.below M3.out.2.1).cells; clear m3) | (refine step_lit (m := 3) (M3.out.alloc _) [UInt8.ofNat n, UInt8.ofNat (S % 256), UInt8.ofNat (S / 256)] (.tmp 36) (.tmp 47) rfl rfl rfl rfl (heap_alloc_new w3 _) HAR.out rfl HP3.out HL3.out ?_; intro v4 w4 m4 _ _; have HM4 := Lib.hid m4; have HD4 := Lib.hid (HR.out.below m4.2.1).cells; clear m4) | (refine step_lit (m := 3) M3.out [UInt8.ofNat n, UInt8.ofNat (S % 256), UInt8.ofNat (S / 256)] (.tmp 36) (.tmp 47) rfl rfl rfl rfl HLT3.out HAR.out rfl HP3.out HL3.out ?_; intro v4 w4 m4 _ _; have HM4 := Lib.hid m4; have HD4 := Lib.hid (HR.out.below m4.2.1).cells; clear m4))
      all_goals
        clear hwr hwa hwb hwc hwd hwe
        generalize hhd : sm N ++ [UInt8.ofNat n, UInt8.ofNat (S % 256), UInt8.ofNat (S / 256)] = hd at HM4
        have HHD := Lib.hid (show hd ++ valsB vs = rowB N vs by
          rw [← hhd, HS1.out]
          have := HN.out
          subst this
          simp [rowB])
        have HHL := Lib.hid (show hd.length ≤ 100 by
          have := sm_len N 0 (by decide) (by rw [lim_0]; omega)
          rw [← hhd]; simp; omega)
        clear hhd
        go_wp2
        go_loopw [7, 8] (fun b i wr => ∃ k : Nat, k ≤ n ∧ i = .int .i64 k ∧ Hid (Made W1.heap.size W1 b (hd ++ valsB (vs.take k)) wr)) (fun _ i _ => n - (intOf i).toNat)
        case atStart => exact ⟨0, Nat.zero_le _, rfl, Lib.hid (by simpa [valsB] using HM4.out)⟩
        case round =>
          obtain ⟨k, hk, rfl, HM⟩ := hrel
          obtain ⟨wo, rfl⟩ : ∃ wo : World, wo = wr := ⟨_, rfl⟩
          obtain ⟨q0, q1⟩ := (HR.out.below HM.out.2.1).cells
          by_cases hlt : k < n
          · obtain ⟨b, o, ⟨uk, un, us⟩, rfl, hb, hu, u0, u1, u2⟩ := (HV.out.below (on HB0.out HM.out.2.1) (Nat.le_refl _)).at_ (k := k) (by have := HN.out; omega)
            have hgd := HGD.out _ (List.mem_of_getElem? hu)
            have hin := hgd.2
            have HT := Lib.hid (show hd ++ valsB (vs.take (k + 1)) = (hd ++ valsB (vs.take k)) ++ valB ⟨uk, un, us⟩ by rw [take_more hu, valsB_snoc, List.append_assoc])
            have HLl := Lib.hid (show (hd ++ valsB (vs.take k)).length ≤ 90000 by
              have h1 := vals_len (vs := vs.take k) fun u hu => HGD.out u (List.mem_of_mem_take hu)
              have h2 := List.length_take_le k vs
              have h3 := HHL.out
              have h4 := HN.out
              rw [List.length_append]; omega)
            generalize hd ++ valsB (vs.take k) = lk at HM HT HLl
            have HMa := Lib.hid (HM.out.alloc (.cells #[.int .i64 uk, .int .i64 un, .string us] 43))
            have hlt' : (k : Int) < (n : Int) := by omega
            have hne1 := World.new_ne wo _ q0
            simp only at u0 u1 u2
            rcases ok_cases hgd.1 with ⟨hk0, -, -⟩ | ⟨hk1, -⟩ | ⟨hk2, hn2, -⟩ | ⟨hk3, hn3, hl3, -⟩
            · simp only at hk0
              subst hk0
              have HE := Lib.hid (show hd ++ valsB (vs.take (k + 1)) = lk by rw [HT.out, valB_0 rfl, List.append_nil])
              clear hu hgd hin
              go_wp2
              go_roundw
              case rel => exact ⟨k + 1, by omega, by go_num, Lib.hid (by rw [HE.out]; exact HMa.out)⟩
              case measure => simp [intOf]; omega
            · simp only at hk1
              subst hk1
              have HE := Lib.hid (show hd ++ valsB (vs.take (k + 1)) = lk ++ sm (zz un) by rw [HT.out, valB_1 rfl])
              have HL1 := Lib.hid (show lk.length + (sm (zz un)).length ≤ 2000000 by
                have := HLl.out
                have := sm_len _ 0 (by decide) (zz_lt hin)
                simp only at this
                omega)
              have HZ := Lib.hid (show zz un ≤ 18446744073709551615 by have := zz_lt hin; rw [lim_0] at this; simp only at this; omega)
              have HI := Lib.hid (show -9223372036854775808 ≤ un ∧ un ≤ 9223372036854775807 from hin)
              clear hu hgd hin
              go_wp2_with (first | (go_at_call 23; (with_reducible refine (refTurned_any un _ HI.out.1 HI.out.2).mono ?_); rintro e w' ⟨rfl, rfl⟩) | (go_at_call 22; (with_reducible refine (refSmall_all (zz un) _ HZ.out).mono ?_); rintro e w5 ⟨v5, rfl, m5⟩; have HM5 := Lib.hid m5; clear m5) | (at_builtin; refine wp_left HMa.out HM5.out (.tmp 65) (.tmp 69) rfl rfl rfl rfl HL1.out ?_; intro v6 w6 m6 _; have HM6 := Lib.hid m6; clear m6))
              go_roundw
              case rel => exact ⟨k + 1, by omega, by go_num, Lib.hid (by rw [HE.out]; exact HM6.out)⟩
              case measure => simp [intOf]; omega
            · simp only at hk2 hn2
              subst hk2
              have HE := Lib.hid (show hd ++ valsB (vs.take (k + 1)) = lk ++ [UInt8.ofNat un.toNat] by rw [HT.out, valB_2 rfl])
              have HL1 := Lib.hid (show lk.length + 1 ≤ 2000000 by have := HLl.out; omega)
              have HC2 := Lib.hid (show [Value.int .u8 un] = bys [UInt8.ofNat un.toNat] by rcases hn2 with h | h <;> rw [h] <;> rfl)
              have hwn : IntKind.u8.wrap un = un := by rcases hn2 with h | h <;> rw [h] <;> rfl
              have hwn2 : un % 256 = un := by omega
              clear hu hgd hin hn2
              go_wp2_with (at_builtin; refine wp_lit HMa.out [UInt8.ofNat un.toNat] (size1 _ _) (.tmp 73) (.tmp 77) rfl rfl rfl rfl HC2.out rfl HL1.out ?_; intro v6 w6 m6 _ _; have HM6 := Lib.hid m6; clear m6)
              go_roundw
              case rel => exact ⟨k + 1, by omega, by go_num, Lib.hid (by rw [HE.out]; exact HM6.out)⟩
              case measure => simp [intOf]; omega
            · simp only at hk3 hn3
              subst hk3 hn3
              have hsz : us.data.toList.length = us.size := by rw [Array.length_toList]; rfl
              have hs32 : us.size ≤ 32 := by rw [← hsz]; exact hl3
              have HE := Lib.hid (show hd ++ valsB (vs.take (k + 1)) = (lk ++ [UInt8.ofNat us.size]) ++ us.data.toList by
                rw [HT.out, valB_3 rfl, List.append_assoc, ← hsz]; rfl)
              have HL1 := Lib.hid (show lk.length + 1 ≤ 2000000 by have := HLl.out; omega)
              have HC3 := Lib.hid (show [Value.int .u8 (us.size : Int)] = bys [UInt8.ofNat us.size] by
                unfold bys
                rw [show (us.size : Int) = ((UInt8.ofNat us.size).toNat : Int) by rw [ofNat_small (by omega)]]
                simp)
              have HBX := Lib.hid (Box.made wo 3 0 us)
              have HO := Lib.hid (made_ne HM.out)
              have HSZ := Lib.hid hsz
              clear hu hgd hin hl3 hsz
              go_wp2_with (at_builtin; refine wp_lit HMa.out [UInt8.ofNat us.size] (size1 _ _) (.tmp 81) (.tmp 86) rfl rfl rfl rfl HC3.out rfl HL1.out ?_; intro v6 w6 m6 g6 e6; have HM6 := Lib.hid m6; have HX6 := Lib.hid (HBX.out.grown g6 HO.out); have HO6 := Lib.hid (ne_on e6 HO.out (by simp)); obtain ⟨c0, c1, c2⟩ := HX6.out.cells; clear m6 g6 e6)
              go_loopw [7, 10] (fun b i wr => ∃ j : Nat, j ≤ us.size ∧ i = .int .i64 j ∧ Hid (Made W1.heap.size W1 b ((lk ++ [UInt8.ofNat us.size]) ++ us.data.toList.take j) wr) ∧ Hid (Box wr wo.heap.size 3 0 us) ∧ Hid (b.ownBlock ≠ some wo.heap.size)) (fun _ i _ => us.size - (intOf i).toNat)
              case atStart => exact ⟨0, Nat.zero_le _, rfl, Lib.hid (by rw [List.take_zero, List.append_nil]; exact HM6.out), HX6, HO6⟩
              case round =>
                obtain ⟨j, hj, rfl, HMj, HXj, HOj⟩ := hrel
                obtain ⟨d0, d1, d2⟩ := HXj.out.cells
                by_cases hjs : j < us.size
                · have HLj := Lib.hid (show ((lk ++ [UInt8.ofNat us.size]) ++ us.data.toList.take j).length + 1 ≤ 2000000 by
                    have h1 := List.length_take_le j us.data.toList
                    have h2 := HLl.out
                    have h3 := HSZ.out
                    simp only [List.length_append, List.length_cons, List.length_nil]; omega)
                  have HTj := Lib.hid (show (((lk ++ [UInt8.ofNat us.size]) ++ us.data.toList.take j) ++ [us[j]]) = (lk ++ [UInt8.ofNat us.size]) ++ us.data.toList.take (j + 1) by rw [take_snoc us j hjs, List.append_assoc (lk ++ _)])
                  have hlt2 := HXj.out.lt
                  go_wp2_with (at_builtin; refine wp_lit HMj.out [us[j]] rfl (.tmp 95) (.tmp 100) rfl rfl rfl rfl rfl rfl HLj.out ?_; intro v7 w7 m7 g7 e7; rw [HTj.out] at m7; have HM7 := Lib.hid m7; have HX7 := Lib.hid (HXj.out.grown g7 HOj.out); have HO7 := Lib.hid (ne_on e7 HOj.out hlt2); clear m7 g7 e7)
                  go_roundw
                  case rel => exact ⟨j + 1, by omega, by go_num, HM7, HX7, HO7⟩
                  case measure => simp [intOf]; omega
                · have HEj := Lib.hid (show (lk ++ [UInt8.ofNat us.size]) ++ us.data.toList.take j = hd ++ valsB (vs.take (k + 1)) by
                    rw [HE.out, List.take_of_length_le (by rw [HSZ.out]; omega)])
                  go_wp2
                  go_roundw
                  case rel => exact ⟨k + 1, by omega, by go_num, Lib.hid (by rw [← HEj.out]; exact HMj.out)⟩
                  case measure => simp [intOf]; omega
          · have HE := Lib.hid (show hd ++ valsB (vs.take k) = rowB N vs by rw [List.take_of_length_le (by have := HN.out; omega)]; exact HHD.out)
            go_wp2
            go_ret2
            exact ⟨_, rfl, by rw [← HE.out]; exact HM.out.base HB0.out (Nat.le_of_lt HLT.out)⟩
theorem refPut_bad (num : Int) (A : Option Addr) (n c : Nat) (vs : List Vl) (x : Int) (hx : putE num vs = x) (hx0 : ¬ x = 0) (w : World) (h : Came w A n num vs) :
    Calls Try.prog 10 #[.agg #[.int .i64 num, .slice A n c]] w (PutPost w [] x) := by
  have HC := Lib.hid (h.below (al (Below.refl w.heap.size w) (.cells #[.int .i64 num, .slice A n c] 24)))
  have HX := Lib.hid hx
  have t := bne_yes hx0
  clear h hx hx0
  go_enter Try.func10, Try.ntmps10
  go_wp2_with (go_at_call 13; (with_reducible refine (refCheck_any num A n c vs x HX.out _ HC.out).mono ?_); rintro e w1 ⟨rfl, hb1⟩; have HB1 := Lib.hid (on (al (Below.refl w.heap.size w) _) hb1); clear hb1)
  go_ret2
  exact ⟨_, rfl, Made.start HB1.out⟩
/-- What the document's Put answers. -/
theorem refPut_any (num : Int) (A : Option Addr) (n c : Nat) (vs : List Vl) (x : Int) (hx : putE num vs = x) (w : World) (h : Came w A n num vs) :
    Calls Try.prog 10 #[.agg #[.int .i64 num, .slice A n c]] w (PutPost w (putB num vs) x) := by
  by_cases hx0 : x = 0
  · subst hx0
    have hf := h.fine hx
    rw [putB_0 hx]
    obtain ⟨N, rfl⟩ : ∃ N : Nat, num = N := ⟨num.toNat, by have := hf.1; omega⟩
    exact refPut_good N A n c vs w hx h
  · rw [putB_no hx hx0]
    exact refPut_bad num A n c vs x hx hx0 w h
end Go.Proofs.Ytkpieiolplkifaa.Rw
