/- The document's Put of slots. -/
import Derived.Test.YtgoadmkenglglaaPageRefSet
namespace Go.Proofs.Ytgoadmkenglglaa.Pg
open Go.RowKit Go.Proofs.Ytgoadmkenglglaa.Mem Go.Proofs.Ytgoadmkenglglaa.Right
set_option linter.unusedVariables false

set_option maxHeartbeats 1000000 in
theorem put_ref_long (A A2 : Option Addr) (n c m c2 : Nat) (w : World) (hm : 255 < m) :
    Calls Try.prog 22 #[.slice A n c, .slice A2 m c2] w (RefP w none 0 3) := by
  have t1 : (255 : Int) < (m : Int) := by omega
  go_enter Try.func22, Try.ntmps22
  go_wp2
  go_ret3
  exact ⟨rfl, Below.refl _ _⟩
set_option maxHeartbeats 1000000 in
theorem put_ref_mid (A A2 : Option Addr) (n c k m c2 : Nat) (S : List Sl) (d : List UInt8) (w : World) (h : RL w A n c S) (hn : n ≤ 1000) (hm : m ≤ 255) (hd : Bs w A2 m c2 d) (hk : k < n) (hf : freeN S = k) (ht : tot (S.set k (some d)) ≤ 100000)
    (x : Bool) (hx : decide (512 < 2 + 2 * n + tot (S.set k (some d))) = x) :
    Calls Try.prog 22 #[.slice A n c, .slice A2 m c2] w (if x = true then RefP w none 0 5 else RefP w (some (S.set k (some d))) k 0) := by
  have HR := Lib.hid h
  have hl := h.len
  have hdl : d.length = m := hd.2.1
  have hls : (S.set k (some d)).length = n := by rw [List.length_set]; exact hl
  have HF := Lib.hid hf
  have HD := Lib.hid hd
  have HT0 := Lib.hid ht
  have HX := Lib.hid hx
  have t1 : ¬ (255 : Int) < (m : Int) := by omega
  clear h hf hd ht hx
  go_enter Try.func22, Try.ntmps22
  go_wp2
  go_loopw [7] (fun i wr => ∃ j : Nat, j ≤ k ∧ i = .int .i64 j ∧ Hid (Below w.heap.size w wr)) (fun i _ => n - (intOf i).toNat)
  case atStart => exact ⟨0, Nat.zero_le _, rfl, Lib.hid (Below.refl _ _)⟩
  case round =>
    obtain ⟨j, hj, rfl, HB1⟩ := hrel
    obtain ⟨b, o, A', c', rfl, hb, c0, c1, _⟩ := (HR.out.below HB1.out).get (k := j) (by omega)
    have hjn : (j : Int) < (n : Int) := by omega
    clear c1
    by_cases hlt : j < k
    · have hs : (sl S j).isSome = true := by rw [← full_sl]; exact freeN_full (by rw [HF.out]; exact hlt)
      rw [hs] at c0
      clear hs
      go_wp2
      go_roundw
      case rel => exact ⟨j + 1, by omega, by go_num, HB1⟩
      case measure => simp [intOf]; omega
    · obtain rfl : j = k := by omega
      have hs : (sl S j).isSome = false := by
        have := freeN_none (S := S) (by rw [HF.out]; omega)
        rw [HF.out] at this
        unfold sl; rw [this]; rfl
      rw [hs] at c0
      clear hs hlt
      have hx := HX.out
      obtain ⟨T, hT⟩ : ∃ T, 2 + 2 * n + tot (S.set j (some d)) = T := ⟨_, rfl⟩
      rw [hT] at hx
      have HTT := Lib.hid hT
      clear hT
      cases x
      case true =>
        have hx' : (512 : Int) < (T : Int) := by have := of_decide_eq_true hx; omega
        clear hx
        go_wp2_with first | (go_at_call 39; (with_reducible refine (copied_got _ n c S w _ HR.out HB1.out hn).mono ?_); rintro e w2 ⟨v, rfl, hm2⟩; clear c0; obtain ⟨g, cg, rfl, hg, hg2⟩ := hm2.copy.form (by omega); rw [hl] at hm2 ⊢; obtain ⟨⟨x0, c0⟩, ⟨x1, c1⟩, f0, f1⟩ := hm2.copy.at_ hl hk; have HS := Lib.hid (show CopyO w (S.set j (some d)) (.slice (some ⟨g, 0, none⟩) n cg) ((w2.setCell ⟨g, j * 2, none⟩ (.bool true)).setCell ⟨g, j * 2 + 1, none⟩ (.slice A2 m c2)) from hdl ▸ CopyR.set (some d) A2 c2 hm2 hl hk hg (by show Bs w A2 d.length c2 d; rw [hdl]; exact HD.out)); obtain ⟨A3, c3, e3, hr3⟩ := CopyO.rl HS.out; injection e3 with e3 e4 e5; subst e3 e5; have HR3 := Lib.hid hr3; rw [hls] at hr3; have HT := Lib.hid (size_ref _ _ cg _ _ hr3 (by omega) HT0.out); rw [HTT.out] at HT; have HB2 := Lib.hid (show Below w.heap.size w ((w2.setCell ⟨g, j * 2, none⟩ (.bool true)).setCell ⟨g, j * 2 + 1, none⟩ (.slice A2 m c2)) by obtain ⟨_, _, h1, _⟩ := HS.out; exact h1.2); clear hm2 hr3 e4) | (go_at_call 13; (with_reducible refine HT.out.mono ?_); rintro e w3 ⟨rfl, hb3⟩; have HB3 := Lib.hid hb3; clear hb3)
        go_ret3
        exact ⟨rfl, on HB2.out HB3.out⟩
      case false =>
        have hx' : ¬ (512 : Int) < (T : Int) := by have := of_decide_eq_false hx; omega
        clear hx
        go_wp2_with first | (go_at_call 39; (with_reducible refine (copied_got _ n c S w _ HR.out HB1.out hn).mono ?_); rintro e w2 ⟨v, rfl, hm2⟩; clear c0; obtain ⟨g, cg, rfl, hg, hg2⟩ := hm2.copy.form (by omega); rw [hl] at hm2 ⊢; obtain ⟨⟨x0, c0⟩, ⟨x1, c1⟩, f0, f1⟩ := hm2.copy.at_ hl hk; have HS := Lib.hid (show CopyO w (S.set j (some d)) (.slice (some ⟨g, 0, none⟩) n cg) ((w2.setCell ⟨g, j * 2, none⟩ (.bool true)).setCell ⟨g, j * 2 + 1, none⟩ (.slice A2 m c2)) from hdl ▸ CopyR.set (some d) A2 c2 hm2 hl hk hg (by show Bs w A2 d.length c2 d; rw [hdl]; exact HD.out)); obtain ⟨A3, c3, e3, hr3⟩ := CopyO.rl HS.out; injection e3 with e3 e4 e5; subst e3 e5; have HR3 := Lib.hid hr3; rw [hls] at hr3; have HT := Lib.hid (size_ref _ _ cg _ _ hr3 (by omega) HT0.out); rw [HTT.out] at HT; have HB2 := Lib.hid (show Below w.heap.size w ((w2.setCell ⟨g, j * 2, none⟩ (.bool true)).setCell ⟨g, j * 2 + 1, none⟩ (.slice A2 m c2)) by obtain ⟨_, _, h1, _⟩ := HS.out; exact h1.2); clear hm2 hr3 e4) | (go_at_call 13; (with_reducible refine HT.out.mono ?_); rintro e w3 ⟨rfl, hb3⟩; have HB3 := Lib.hid hb3; clear hb3)
        go_ret3
        refine ⟨⟨some ⟨g, 0, none⟩, cg, by rw [hls]; rfl, ?_⟩, on HB2.out HB3.out⟩
        exact HR3.out.below HB3.out
/-- A zero slot behind a copy. -/
theorem wp_slot {w0 w : World} {ops : Array Oper} {rest : List Oper} {o : Oper} {a : Act} {Q : Exit → Act → World → Prop} (s y : Operand)
    (hgd : o.guard = none) (ho : o.op = .call { callee := .builtin .append, args := #[s, y], argTypes := #[25, 25] })
    {v : Value} {S : List Sl} (hs : a.eval s = v) (hown : CopyO w0 S v w) (hy : a.eval y = .slice (some ⟨w.heap.size, 0, none⟩) 1 1) (hn : S.length ≤ 1000)
    (h : ∀ v' w', CopyO w0 (S ++ [none]) v' w' → wpList Try.prog ops Q rest (a.put o.dst v') w') :
    wpList Try.prog ops Q (o :: rest) a (w.alloc (.cells #[.bool false, .slice none 0 0] 52)) := by
  obtain ⟨rs, e, h1, h2⟩ := hown
  have hl : rs.length = S.length := by rw [← e, List.length_map]
  refine wp_rcs (w0 := w0) s y hgd ho (us := [⟨none, none, 0⟩]) hs (rs := rs) ⟨h1.1.alloc _, al h1.2 _⟩ hy (B := w.heap.size + 1) (fun k u hu => ?_) rfl (fun e => by cases e) (by omega) fun v' w' hm => h v' w' ⟨rs ++ [⟨none, none, 0⟩], by rw [List.map_append, e]; rfl, hm, ?_⟩
  · refine ⟨w.heap.size, 0, rfl, Nat.lt_succ_self _, ?_⟩
    have hB := (show CelL (w.alloc (.cells #[.bool false, .slice none 0 0] 52)) w.heap.size 52 [.bool false, .slice none 0 0] from Cel.new w 52 #[.bool false, .slice none 0 0] rfl).at_ k
    rw [Nat.zero_add, hB]
    exact hu
  · intro r hr
    rcases List.mem_append.1 hr with hr | hr
    · exact h2 r hr
    · simp at hr
      subst hr
      exact no_data w0
set_option maxHeartbeats 1000000 in
theorem put_ref_end (A A2 : Option Addr) (n c m c2 : Nat) (S : List Sl) (d : List UInt8) (w : World) (h : RL w A n c S) (hn : n ≤ 900) (hm : m ≤ 255) (hd : Bs w A2 m c2 d) (hf : freeN S = n) (ht : tot (S ++ [some d]) ≤ 100000)
    (x : Bool) (hx : decide (512 < 2 + 2 * (n + 1) + tot (S ++ [some d])) = x) :
    Calls Try.prog 22 #[.slice A n c, .slice A2 m c2] w (if x = true then RefP w none 0 5 else RefP w (some (S ++ [some d])) n 0) := by
  have HR := Lib.hid h
  have hl := h.len
  have hdl : d.length = m := hd.2.1
  have hl1 : (S ++ [none]).length = n + 1 := by rw [List.length_append, hl]; rfl
  have hset : (S ++ [none]).set n (some d) = S ++ [some d] := set_mid S none (some d) [] hl
  have hls : (S ++ [some d]).length = n + 1 := by rw [List.length_append, hl]; rfl
  have HF := Lib.hid hf
  have HD := Lib.hid hd
  have HT0 := Lib.hid ht
  have HX := Lib.hid hx
  have HSET := Lib.hid hset
  have HN := Lib.hid (show S.length ≤ 1000 by omega)
  have t1 : ¬ (255 : Int) < (m : Int) := by omega
  clear h hf hd ht hx hset
  go_enter Try.func22, Try.ntmps22
  go_wp2
  go_loopw [7] (fun i wr => ∃ j : Nat, j ≤ n ∧ i = .int .i64 j ∧ Hid (Below w.heap.size w wr)) (fun i _ => n - (intOf i).toNat)
  case atStart => exact ⟨0, Nat.zero_le _, rfl, Lib.hid (Below.refl _ _)⟩
  case round =>
    obtain ⟨j, hj, rfl, HB1⟩ := hrel
    by_cases hlt : j < n
    · obtain ⟨b, o, A', c', rfl, hb, c0, c1, _⟩ := (HR.out.below HB1.out).get (k := j) (by omega)
      have hjn : (j : Int) < (n : Int) := by omega
      clear c1
      have hs : (sl S j).isSome = true := by rw [← full_sl]; exact freeN_full (by rw [HF.out]; exact hlt)
      rw [hs] at c0
      clear hs
      go_wp2
      go_roundw
      case rel => exact ⟨j + 1, by omega, by go_num, HB1⟩
      case measure => simp [intOf]; omega
    · obtain rfl : j = n := by omega
      clear hlt
      have hx := HX.out
      obtain ⟨T, hT⟩ : ∃ T, 2 + 2 * (j + 1) + tot (S ++ [some d]) = T := ⟨_, rfl⟩
      rw [hT] at hx
      have HTT := Lib.hid hT
      have hjn : (j : Int) < ((j + 1 : Nat) : Int) := by omega
      clear hT
      cases x
      case true =>
        have hx' : (512 : Int) < (T : Int) := by have := of_decide_eq_true hx; omega
        clear hx
        go_wp2_with first | (go_at_call 39; go_loud ((with_reducible refine (copied_got _ j c S w _ HR.out HB1.out (by omega)).mono ?_); rintro e w2 ⟨v, rfl, hm2⟩; have HM2 := Lib.hid hm2; clear hm2)) | (at_builtin; go_loud (refine wp_slot _ _ rfl rfl rfl HM2.out rfl HN.out ?_; intro v' w3 m3; have HM3 := Lib.hid m3; obtain ⟨g, cg, ev, hg, hg2⟩ := m3.copy.form (by omega); rw [hl1] at ev; subst ev; obtain ⟨⟨x0, c0⟩, ⟨x1, c1⟩, f0, f1⟩ := m3.copy.at_ hl1 (Nat.lt_succ_self j); have HS := Lib.hid (show CopyO w (S ++ [some d]) (.slice (some ⟨g, 0, none⟩) (j + 1) cg) ((w3.setCell ⟨g, j * 2, none⟩ (.bool true)).setCell ⟨g, j * 2 + 1, none⟩ (.slice A2 m c2)) by (rw [← HSET.out]; exact (hdl ▸ CopyR.set (some d) A2 c2 m3 hl1 (Nat.lt_succ_self j) hg (by show Bs w A2 d.length c2 d; rw [hdl]; exact HD.out)))); obtain ⟨A3, c3, e3, hr3⟩ := CopyO.rl HS.out; injection e3 with e3 e4 e5; subst e3 e5; have HR3 := Lib.hid hr3; rw [hls] at hr3; have HT := Lib.hid (size_ref _ _ cg _ _ hr3 (by omega) HT0.out); rw [HTT.out] at HT; have HB2 := Lib.hid (show Below w.heap.size w ((w3.setCell ⟨g, j * 2, none⟩ (.bool true)).setCell ⟨g, j * 2 + 1, none⟩ (.slice A2 m c2)) by obtain ⟨_, _, h1, _⟩ := HS.out; exact h1.2); clear m3 hr3 e4)) | (go_at_call 13; (with_reducible refine HT.out.mono ?_); rintro e w3 ⟨rfl, hb3⟩; have HB3 := Lib.hid hb3; clear hb3)
        go_ret3
        exact ⟨rfl, on HB2.out HB3.out⟩
      case false =>
        have hx' : ¬ (512 : Int) < (T : Int) := by have := of_decide_eq_false hx; omega
        clear hx
        go_wp2_with first | (go_at_call 39; go_loud ((with_reducible refine (copied_got _ j c S w _ HR.out HB1.out (by omega)).mono ?_); rintro e w2 ⟨v, rfl, hm2⟩; have HM2 := Lib.hid hm2; clear hm2)) | (at_builtin; go_loud (refine wp_slot _ _ rfl rfl rfl HM2.out rfl HN.out ?_; intro v' w3 m3; have HM3 := Lib.hid m3; obtain ⟨g, cg, ev, hg, hg2⟩ := m3.copy.form (by omega); rw [hl1] at ev; subst ev; obtain ⟨⟨x0, c0⟩, ⟨x1, c1⟩, f0, f1⟩ := m3.copy.at_ hl1 (Nat.lt_succ_self j); have HS := Lib.hid (show CopyO w (S ++ [some d]) (.slice (some ⟨g, 0, none⟩) (j + 1) cg) ((w3.setCell ⟨g, j * 2, none⟩ (.bool true)).setCell ⟨g, j * 2 + 1, none⟩ (.slice A2 m c2)) by (rw [← HSET.out]; exact (hdl ▸ CopyR.set (some d) A2 c2 m3 hl1 (Nat.lt_succ_self j) hg (by show Bs w A2 d.length c2 d; rw [hdl]; exact HD.out)))); obtain ⟨A3, c3, e3, hr3⟩ := CopyO.rl HS.out; injection e3 with e3 e4 e5; subst e3 e5; have HR3 := Lib.hid hr3; rw [hls] at hr3; have HT := Lib.hid (size_ref _ _ cg _ _ hr3 (by omega) HT0.out); rw [HTT.out] at HT; have HB2 := Lib.hid (show Below w.heap.size w ((w3.setCell ⟨g, j * 2, none⟩ (.bool true)).setCell ⟨g, j * 2 + 1, none⟩ (.slice A2 m c2)) by obtain ⟨_, _, h1, _⟩ := HS.out; exact h1.2); clear m3 hr3 e4)) | (go_at_call 13; (with_reducible refine HT.out.mono ?_); rintro e w3 ⟨rfl, hb3⟩; have HB3 := Lib.hid hb3; clear hb3)
        go_ret3
        refine ⟨⟨some ⟨g, 0, none⟩, cg, by rw [hls]; rfl, ?_⟩, on HB2.out HB3.out⟩
        exact HR3.out.below HB3.out
end Go.Proofs.Ytgoadmkenglglaa.Pg
