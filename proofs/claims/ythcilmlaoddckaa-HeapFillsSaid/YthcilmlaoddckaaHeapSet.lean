/- The heap's Set. -/
import Derived.Test.YthcilmlaoddckaaHeapFirst
import Derived.Deep.AppendLies
namespace Go.Proofs.Ythcilmlaoddckaa.Pg
open Go.RowKit Go.Proofs.Ythcilmlaoddckaa.Mem Go.Proofs.Ythcilmlaoddckaa.Right
set_option linter.unusedVariables false

/-- The two cells that a call of a place begins with: the place, the place that it answers. -/
structure Two (w W : World) (p s : Int) : Prop where
  below : Below w.heap.size w W
  at_ : Cel W w.heap.size 31 #[.int .i64 p, .int .i64 s]
  res : Cel W (w.heap.size + 1) 31 #[.int .i64 0, .int .i64 0]
theorem Two.start (w : World) (p s : Int) : Two w ((w.alloc (.cells #[.int .i64 p, .int .i64 s] 31)).alloc (.cells #[.int .i64 0, .int .i64 0] 31)) p s :=
  ⟨al (al (Below.refl _ _) _) _, (Cel.new w _ _ rfl).alloc _, Cel.new (w.alloc _) _ _ (by simp)⟩
theorem Two.on {w W W' : World} {p s : Int} (h : Two w W p s) (hb : Below W.heap.size W W') : Two w W' p s := ⟨Mem.on h.below hb, h.at_.below hb, h.res.below hb⟩
set_option maxRecDepth 100000 in
set_option maxHeartbeats 1000000 in
theorem set_h_long (n₀ B : Nat) (L : List (List Sl)) (p s : Int) (A2 : Option Addr) (m c2 : Nat) (w : World) (h : HP w n₀ B L) (hm : 255 < m) :
    Calls Try.prog 19 #[.pointer (some ⟨B, 0, none⟩), .agg #[.int .i64 p, .int .i64 s], .slice A2 m c2] w (HM w n₀ B L (.tuple #[.agg #[.int .i64 0, .int .i64 0], .int .i64 3])) := by
  obtain ⟨W, hW⟩ : ∃ W, (w.alloc (.cells #[.int .i64 p, .int .i64 s] 31)).alloc (.cells #[.int .i64 0, .int .i64 0] 31) = W := ⟨_, rfl⟩
  have HT := Lib.hid (hW ▸ Two.start w p s)
  have H := Lib.hid h
  have HC := Lib.hid (checkData_long n₀ B L A2 m c2 _ (h.below HT.out.below) hm)
  have v0 := HT.out.res.at_ 0
  have v1 := HT.out.res.at_ 1
  have f0 := HT.out.res.open_ 0
  have f1 := HT.out.res.open_ 1
  clear h
  go_enter Try.func19, Try.ntmps19
  go_upto_region 1 with fail
  clear hW
  go_wp2_with (go_at_call 30; (with_reducible refine HC.out.mono ?_); rintro e w1 ⟨rfl, rfl⟩)
  refine bodyPost_ret (res_ct rfl rfl (rid_load ((HT.out.res.set 0 (.int .i64 0)).set 1 (.int .i64 0)))) rfl ?_
  exact HM.same H.out HT.out.below (Nat.le_succ _) HT.out.res
set_option maxRecDepth 100000 in
set_option maxHeartbeats 1000000 in
theorem set_h_out (n₀ B : Nat) (L : List (List Sl)) (p s : Int) (A2 : Option Addr) (m c2 : Nat) (w : World) (h : HP w n₀ B L) (hm : ¬ 255 < m) (hp : ¬ inH L p) :
    Calls Try.prog 19 #[.pointer (some ⟨B, 0, none⟩), .agg #[.int .i64 p, .int .i64 s], .slice A2 m c2] w (HM w n₀ B L (.tuple #[.agg #[.int .i64 0, .int .i64 0], .int .i64 4])) := by
  obtain ⟨W, hW⟩ : ∃ W, (w.alloc (.cells #[.int .i64 p, .int .i64 s] 31)).alloc (.cells #[.int .i64 0, .int .i64 0] 31) = W := ⟨_, rfl⟩
  have HT := Lib.hid (hW ▸ Two.start w p s)
  have H := Lib.hid h
  have HC := Lib.hid (checkData_h n₀ B L A2 m c2 _ (h.below HT.out.below) hm)
  have HF := Lib.hid (find_out n₀ B L p s _ (h.below HT.out.below) hp)
  have z0 := HT.out.at_.at_ 0
  have z1 := HT.out.at_.at_ 1
  clear h
  go_enter Try.func19, Try.ntmps19
  go_upto_region 1 with fail
  clear hW
  go_wp2_with first | (go_at_call 30; (with_reducible refine HC.out.mono ?_); rintro e w1 ⟨rfl, rfl⟩) | (go_at_call 28; (with_reducible refine HF.out.mono ?_); rintro e w2 ⟨rfl, hb2⟩; have HT2 := Lib.hid (HT.out.on hb2); have v0 := HT2.out.res.at_ 0; have v1 := HT2.out.res.at_ 1; have f0 := HT2.out.res.open_ 0; have f1 := HT2.out.res.open_ 1; clear hb2)
  refine bodyPost_ret (res_ct rfl rfl (rid_load ((HT2.out.res.set 0 (.int .i64 0)).set 1 (.int .i64 0)))) rfl ?_
  exact HM.same H.out HT2.out.below (Nat.le_succ _) HT2.out.res
set_option maxRecDepth 100000 in
set_option maxHeartbeats 2000000 in
theorem set_h_in (n₀ B : Nat) (L : List (List Sl)) (k : Nat) (s : Int) (A2 : Option Addr) (m c2 : Nat) (d : List UInt8) (w : World) (h : HP w n₀ B L) (hk : k < L.length) (hd : Bs w A2 m c2 d) (hm : ¬ 255 < m) (x : Option (List (List Sl))) (p q y : Int) (hx : setK L k s d = (x, p, q, y)) :
    Calls Try.prog 19 #[.pointer (some ⟨B, 0, none⟩), .agg #[.int .i64 (k : Int), .int .i64 s], .slice A2 m c2] w (HM w n₀ B (x.getD L) (.tuple #[.agg #[.int .i64 p, .int .i64 q], .int .i64 y])) := by
  obtain ⟨W, hW⟩ : ∃ W, (w.alloc (.cells #[.int .i64 (k : Int), .int .i64 s] 31)).alloc (.cells #[.int .i64 0, .int .i64 0] 31) = W := ⟨_, rfl⟩
  have HT := Lib.hid (hW ▸ Two.start w (k : Int) s)
  have H := Lib.hid h
  have HD := Lib.hid hd
  have hdm : d.length = m := hd.2.1
  have HDM : Hid (d.length ≤ 255) := Lib.hid (by omega)
  have HC := Lib.hid (checkData_h n₀ B L A2 m c2 _ (h.below HT.out.below) hm)
  have HF := Lib.hid (find_in n₀ B L k s _ (h.below HT.out.below) hk)
  have z0 := HT.out.at_.at_ 0
  have z1 := HT.out.at_.at_ 1
  obtain ⟨sx, sy, hsx⟩ : ∃ sx sy, setV (pageOf L k) s d = (sx, sy) := ⟨_, _, rfl⟩
  have HSX := Lib.hid hsx
  unfold setK at hx
  rw [hsx] at hx
  cases sx with
  | none =>
    have hy := setV_no hsx
    by_cases h5 : sy = 5
    · subst h5
      simp only [if_true] at hx
      have HX := Lib.hid hx
      clear h hd hsx hx hy
      go_enter Try.func19, Try.ntmps19
      go_upto_region 1 with fail
      clear hW
      go_wp2_with first | (go_at_call 30; (with_reducible refine HC.out.mono ?_); rintro e w1 ⟨rfl, rfl⟩) | (go_at_call 28; (with_reducible refine HF.out.mono ?_); rintro e w2 ⟨A1, c1, rfl, hg2, hb2⟩; have HG2 := Lib.hid hg2; have HT2 := Lib.hid (HT.out.on hb2); clear z0 z1; have z0 := HT2.out.at_.at_ 0; have z1 := HT2.out.at_.at_ 1; clear hb2 hg2) | (go_at_call 32; (with_reducible refine (set_got A1 A2 c1 m c2 (pageOf L k) s d _ HG2.out (HD.out.below HT2.out.below) none 5 HSX.out).mono ?_); rintro e w3 ⟨rfl, hb3⟩; have HT3 := Lib.hid (HT2.out.on hb3); clear z0 z1; have z0 := HT3.out.at_.at_ 0; have z1 := HT3.out.at_.at_ 1; clear hb3) | (go_at_call 34; (with_reducible refine (move_h n₀ B L k s A2 m c2 d _ (H.out.below HT3.out.below) hk (HD.out.below HT3.out.below) HDM.out x p q y HX.out).mono ?_); rintro e w4 ⟨rfl, hp4, hf4⟩; have HP4 := Lib.hid hp4; have HF4 := Lib.hid hf4; have HZ4 := Lib.hid (hf4.cel (by decide) HT3.out.res); have v0 := HZ4.out.at_ 0; have v1 := HZ4.out.at_ 1; have f0 := HZ4.out.open_ 0; have f1 := HZ4.out.open_ 1; clear hp4 hf4)
      refine bodyPost_ret (res_ct rfl rfl (rid_load ((HZ4.out.set 0 (.int .i64 p)).set 1 (.int .i64 q)))) rfl ?_
      exact HM.fin HP4.out ((Frm.of HT3.out.below H.out.size).trans HF4.out) (Nat.le_succ _) H.out.size HZ4.out
    · simp only [if_neg h5] at hx
      injection hx with e1 hx
      injection hx with e2 hx
      injection hx with e3 e4
      subst e1 e2 e3 e4
      have h0 : ¬ sy = 0 := by rcases hy with e | e | e <;> (rw [e]; decide)
      clear h hd hsx hy
      go_enter Try.func19, Try.ntmps19
      go_upto_region 1 with fail
      clear hW
      go_wp2_with first | (go_at_call 30; (with_reducible refine HC.out.mono ?_); rintro e w1 ⟨rfl, rfl⟩) | (go_at_call 28; (with_reducible refine HF.out.mono ?_); rintro e w2 ⟨A1, c1, rfl, hg2, hb2⟩; have HG2 := Lib.hid hg2; have HT2 := Lib.hid (HT.out.on hb2); clear z0 z1; have z0 := HT2.out.at_.at_ 0; have z1 := HT2.out.at_.at_ 1; clear hb2 hg2) | (go_at_call 32; (with_reducible refine (set_got A1 A2 c1 m c2 (pageOf L k) s d _ HG2.out (HD.out.below HT2.out.below) none sy HSX.out).mono ?_); rintro e w3 ⟨rfl, hb3⟩; have HT3 := Lib.hid (HT2.out.on hb3); clear z0 z1; have v0 := HT3.out.res.at_ 0; have v1 := HT3.out.res.at_ 1; have f0 := HT3.out.res.open_ 0; have f1 := HT3.out.res.open_ 1; clear hb3)
      refine bodyPost_ret (res_ct rfl rfl (rid_load ((HT3.out.res.set 0 (.int .i64 0)).set 1 (.int .i64 0)))) rfl ?_
      exact HM.same H.out HT3.out.below (Nat.le_succ _) HT3.out.res
  | some S =>
    injection hx with e1 hx
    injection hx with e2 hx
    injection hx with e3 e4
    subst e1 e2 e3 e4
    obtain ⟨hok, rfl, f, rfl, _, _, hS', _⟩ := setV_yes (h.ok.page k) hsx
    have hne : S ≠ [] := by
      intro e
      rw [e] at hS'
      have := congrArg List.length hS'
      rw [List.length_set] at this
      simp at this
      omega
    have HKO := Lib.hid (h.ok.set hk hok hne)
    have HSP := Lib.hid (show setP L k S = L.set k S from setP_lt hk)
    clear h hd hsx hok hne hS'
    go_enter Try.func19, Try.ntmps19
    go_upto_region 1 with fail
    clear hW
    go_upto_region 10 with first | (go_at_call 30; (with_reducible refine HC.out.mono ?_); rintro e w1 ⟨rfl, rfl⟩) | (go_at_call 28; (with_reducible refine HF.out.mono ?_); rintro e w2 ⟨A1, c1, rfl, hg2, hb2⟩; have HG2 := Lib.hid hg2; have HT2 := Lib.hid (HT.out.on hb2); clear z0 z1; have z0 := HT2.out.at_.at_ 0; have z1 := HT2.out.at_.at_ 1; clear hb2 hg2) | (go_at_call 32; (with_reducible refine (set_got A1 A2 c1 m c2 (pageOf L k) (f : Int) d _ HG2.out (HD.out.below HT2.out.below) (some S) 0 HSX.out).mono ?_); rintro e w3 ⟨g3, c3, rfl, hf3⟩; have HT3 := Lib.hid (HT2.out.on hf3.2.2); have HG3 := Lib.hid hf3.1; clear z0 z1 hf3)
    obtain ⟨A, n, c, ⟨y0, y1, g1⟩, hcel, hp⟩ := (H.out.below HT3.out.below).open_
    have hl := hp.len
    have HW := Lib.hid (with_any A (some ⟨g3, 0, none⟩) n c c3 k L S _ (hp.below (Below.refl _ _).drew) (by have := H.out.ok.few; omega) (by omega) (HG3.out.below (Below.refl _ _).drew))
    have HK := Lib.hid (show ∀ W', Below w3.drew.heap.size w3.drew W' → W'.cell? ⟨w.heap.size, 0, none⟩ = some (.int .i64 (k : Int)) ∧ W'.cell? ⟨B, 1, none⟩ = some (.slice A n c) ∧ W'.frozen? ⟨B, 1, none⟩ = false from fun W' hW' => by
      have hz := HT3.out.at_.below (W' := W') (undraw hW')
      have hc := hcel.below (W' := W') (undraw hW')
      exact ⟨hz.at_ 0, hc.at_ 1, hc.open_ 1⟩)
    have z0 := HT3.out.at_.at_ 0
    clear hcel hp hl
    have y1' := y1
    go_region_law (first | (go_simp; go_at_call 33; (with_reducible refine HW.out.mono ?_); rintro e w4 ⟨A4, c4, rfl, hp4, hb4⟩; have HP4 := Lib.hid hp4; have HT4 := Lib.hid (HT3.out.on (undraw hb4)); obtain ⟨q0, q1, q2⟩ := HK.out w4 hb4; clear hb4 hp4))
    all_goals
      have hBw := H.out.lt
      have n3 : B ≠ w.heap.size := by omega
      have n4 : w.heap.size ≠ B := by omega
      have n5 : B ≠ w.heap.size + 1 := by omega
      have n6 : w.heap.size + 1 ≠ B := by omega
      have z1' := HT4.out.at_.at_ 1
      have v0 := HT4.out.res.at_ 0
      have v1 := HT4.out.res.at_ 1
      have f0 := HT4.out.res.open_ 0
      have f1 := HT4.out.res.open_ 1
      clear z0
      go_wp2
      have hq := HT4.out.res.other (b := B) n5 1 (.slice A4 (setP L k S).length c4)
      refine bodyPost_ret (res_ct rfl rfl (rid_load ((hq.set 0 (.int .i64 (k : Int))).set 1 (.int .i64 (f : Int))))) rfl ?_
      have HP5 := HP4.out
      rw [HSP.out] at HP5
      have hturn := (H.out.below HT4.out.below).turn HP5 HKO.out
      rw [HSP.out] at hq ⊢
      exact HM.fin hturn.1 ((Frm.of HT4.out.below H.out.size).trans hturn.2) (Nat.le_succ _) H.out.size hq
/-- Set. -/
theorem set_h (n₀ B : Nat) (L : List (List Sl)) (p s : Int) (A2 : Option Addr) (m c2 : Nat) (d : List UInt8) (w : World) (h : HP w n₀ B L) (hd : Bs w A2 m c2 d) (x : Option (List (List Sl))) (p' q y : Int) (hx : setH L p s d = (x, p', q, y)) :
    Calls Try.prog 19 #[.pointer (some ⟨B, 0, none⟩), .agg #[.int .i64 p, .int .i64 s], .slice A2 m c2] w (HM w n₀ B (x.getD L) (.tuple #[.agg #[.int .i64 p', .int .i64 q], .int .i64 y])) := by
  have hdm : d.length = m := hd.2.1
  unfold setH at hx
  by_cases h5 : 255 < d.length
  · rw [if_pos h5] at hx
    cases hx
    exact set_h_long n₀ B L p s A2 m c2 w h (by omega)
  · rw [if_neg h5] at hx
    by_cases hin : inH L p
    · rw [if_pos hin] at hx
      obtain ⟨k, rfl⟩ := Int.eq_ofNat_of_zero_le hin.1
      rw [Int.toNat_natCast] at hx
      exact set_h_in n₀ B L k s A2 m c2 d w h hin.2 hd (by omega) x p' q y hx
    · rw [if_neg hin] at hx
      cases hx
      exact set_h_out n₀ B L p s A2 m c2 w h (by omega) hin
end Go.Proofs.Ythcilmlaoddckaa.Pg
