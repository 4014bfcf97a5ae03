/- One act on the page and on the document's slots: the law's step. -/
import Derived.Test.YtgoadmkenglglaaPageRefBytes
import Derived.Test.YtgoadmkenglglaaPageRefSlots
namespace Go.Proofs.Ytgoadmkenglglaa.Pg
open Go.RowKit Go.Proofs.Ytgoadmkenglglaa.Mem Go.Proofs.Ytgoadmkenglglaa.Right Go.Proofs.Ytgoadmkenglglaa.Refs
set_option linter.unusedVariables false

theorem blk_bs {w : World} {g n : Nat} {L : List UInt8} (h : Blk w g L []) (hn : L.length = n) (h64 : n ≤ 9223372036854775807) : Bs w (some ⟨g, 0, none⟩) n n L := by
  refine ⟨fun k u hu => ⟨g, 0, rfl, blk_lt (show w.heap[g]? = _ from h), ?_⟩, hn, Nat.le_refl _, h64⟩
  rw [Nat.zero_add, cell_of_row w g k _ _ _ h.heap, List.getElem?_toArray, List.append_nil]
  exact hu
theorem bytes_got (A : Option Addr) (n c : Nat) (S : List Sl) (w : World) (h : RL w A n c S) (hS : Fit S) :
    Calls Try.prog 8 #[.slice A n c] w fun e w' => ∃ g, e = .returned (.slice (some ⟨g, 0, none⟩) 512 512) ∧ Bs w' (some ⟨g, 0, none⟩) 512 512 (pg S) ∧ Below w.heap.size w w' :=
  (bytes_ref A n c S w h hS).mono fun e w' ⟨g, _, a, b, c⟩ => ⟨g, a, blk_bs b hS.len (by decide), c⟩
/-- What one act leaves: page and slots, still of the same. -/
def DoneP (w : World) (e : Ending) (w' : World) : Prop :=
  ∃ A c A1 n1 c1 S, e = .returned (.tuple #[.slice A 512 c, .slice A1 n1 c1, .bool true]) ∧ Good w' A c S ∧ RL w' A1 n1 c1 S ∧ Below w.heap.size w w'
theorem good_ok {w : World} {A : Option Addr} {c : Nat} {S : List Sl} (h : Good w A c S) : Ok S := h.2
theorem good_bs {w : World} {A : Option Addr} {c : Nat} {S : List Sl} (h : Good w A c S) : Bs w A 512 c (pg S) := h.1
theorem bne_same (y : Int) : (y != y) = false := by simp
set_option maxRecDepth 100000 in
set_option maxHeartbeats 4000000 in
theorem done_put (A A1 A2 : Option Addr) (c n1 c1 m c2 : Nat) (S : List Sl) (d : List UInt8) (k : Int) (w : World) (h : Good w A c S) (hr : RL w A1 n1 c1 S) (hd : Bs w A2 m c2 d) :
    Calls Try.prog 11 #[.slice A 512 c, .slice A1 n1 c1, .agg #[.int .i64 0, .int .i64 k, .slice A2 m c2]] w (DoneP w) := by
  have HB0 := Lib.hid (al (Below.refl w.heap.size w) (.cells #[.int .i64 0, .int .i64 k, .slice A2 m c2] 30))
  have HZ0 := Lib.hid (Cel.new w 30 #[.int .i64 0, .int .i64 k, .slice A2 m c2] rfl)
  have hn1 : n1 ≤ 1000 := by have := h.2.fit.room; have := hr.len; omega
  have HG := Lib.hid h
  have HR := Lib.hid hr
  have HD := Lib.hid hd
  obtain ⟨x, ks, y, hx⟩ : ∃ x ks y, putV S d = (x, ks, y) := ⟨_, _, _, rfl⟩
  have HX := Lib.hid hx
  cases x with
  | none =>
    have ty : (y != 0) = true := by
      have := putV_no hx
      rcases this.2 with e | e <;> (rw [e]; rfl)
    have ts := bne_same y
    have tk := bne_same ks
    clear hx h hr hd
    go_enter Try.func11, Try.ntmps11
    go_wp2_with first | (go_at_call 18; (with_reducible refine (put_got A A2 c m c2 S d _ (HG.out.below HB0.out) (HD.out.below HB0.out) none ks y HX.out).mono ?_); rintro e w1 ⟨rfl, hb1⟩; have HB1 := Lib.hid (on HB0.out hb1); have HZ1 := Lib.hid (HZ0.out.below hb1); obtain ⟨⟨z0, z1, z2⟩, _⟩ := HZ1.out.three; clear hb1) | (go_at_call 22; (with_reducible refine (put_ref A1 A2 n1 c1 m c2 S d _ (HR.out.below HB1.out) (good_ok HG.out) (HD.out.below HB1.out) none ks y HX.out).mono ?_); rintro e w2 ⟨rfl, hb2⟩; have HB2 := Lib.hid (on HB1.out hb2); clear hb2 z0 z1 z2)
    go_ret3
    exact ⟨A, c, A1, n1, c1, S, rfl, HG.out.below HB2.out, HR.out.below HB2.out, HB2.out⟩
  | some S' =>
    obtain ⟨hok, e1, e2, rfl, e3⟩ := putV_ok h.2 hx
    clear e1 e2 e3
    have HO := Lib.hid hok
    have tk := bne_same ks
    clear hx h hr hd hok
    go_enter Try.func11, Try.ntmps11
    go_wp2_with first | (go_at_call 18; (with_reducible refine (put_got A A2 c m c2 S d _ (HG.out.below HB0.out) (HD.out.below HB0.out) (some S') ks 0 HX.out).mono ?_); rintro e w1 ⟨g1, cg, rfl, hf1⟩; have HF1 := Lib.hid hf1.1; have HB1 := Lib.hid (on HB0.out hf1.2.2); have HZ1 := Lib.hid (HZ0.out.below hf1.2.2); obtain ⟨⟨z0, z1, z2⟩, _⟩ := HZ1.out.three; clear hf1) | (go_at_call 22; (with_reducible refine (put_ref A1 A2 n1 c1 m c2 S d _ (HR.out.below HB1.out) (good_ok HG.out) (HD.out.below HB1.out) (some S') ks 0 HX.out).mono ?_); rintro e w2 ⟨⟨A3, c3, rfl, hr2⟩, hb2⟩; have HR2 := Lib.hid hr2; have HB2 := Lib.hid (on HB1.out hb2); have HF2 := Lib.hid (HF1.out.below hb2); clear z0 z1 z2 hb2 hr2) | (go_at_call 8; (with_reducible refine (bytes_got A3 _ c3 S' _ HR2.out HO.out.fit).mono ?_); rintro e w3 ⟨g3, rfl, hs3, hb3⟩; have HS3 := Lib.hid hs3; have HB3 := Lib.hid (on HB2.out hb3); have HF3 := Lib.hid (HF2.out.below hb3); have HR3 := Lib.hid (HR2.out.below hb3); clear hs3 hb3) | (go_at_call 7; (with_reducible refine (same_got (some ⟨g1, 0, none⟩) (some ⟨g3, 0, none⟩) 512 512 cg 512 (pg S') (pg S') true (decide_eq_true rfl) _ (good_bs HF3.out) HS3.out).mono ?_); rintro e w4 ⟨rfl, hb4⟩; have HB4 := Lib.hid (on HB3.out hb4); have HF4 := Lib.hid (HF3.out.below hb4); have HR4 := Lib.hid (HR3.out.below hb4); clear hb4)
    go_ret3
    exact ⟨some ⟨g1, 0, none⟩, cg, A3, S'.length, c3, S', rfl, HF4.out, HR4.out, HB4.out⟩
set_option maxRecDepth 100000 in
set_option maxHeartbeats 4000000 in
theorem done_set (A A1 A2 : Option Addr) (c n1 c1 m c2 : Nat) (S : List Sl) (d : List UInt8) (k : Int) (w : World) (h : Good w A c S) (hr : RL w A1 n1 c1 S) (hd : Bs w A2 m c2 d) :
    Calls Try.prog 11 #[.slice A 512 c, .slice A1 n1 c1, .agg #[.int .i64 1, .int .i64 k, .slice A2 m c2]] w (DoneP w) := by
  have HB0 := Lib.hid (al (Below.refl w.heap.size w) (.cells #[.int .i64 1, .int .i64 k, .slice A2 m c2] 30))
  have HZ0 := Lib.hid (Cel.new w 30 #[.int .i64 1, .int .i64 k, .slice A2 m c2] rfl)
  have hn1 : n1 ≤ 1000 := by have := h.2.fit.room; have := hr.len; omega
  have HG := Lib.hid h
  have HR := Lib.hid hr
  have HD := Lib.hid hd
  obtain ⟨x, y, hx⟩ : ∃ x y, setV S k d = (x, y) := ⟨_, _, rfl⟩
  have HX := Lib.hid hx
  cases x with
  | none =>
    have ty : (y != 0) = true := by
      rcases setV_no hx with e | e | e <;> (rw [e]; rfl)
    have ts := bne_same y
    clear hx h hr hd
    go_enter Try.func11, Try.ntmps11
    go_wp2_with first | (go_at_call 19; (with_reducible refine (set_got A A2 c m c2 S k d _ (HG.out.below HB0.out) (HD.out.below HB0.out) none y HX.out).mono ?_); rintro e w1 ⟨rfl, hb1⟩; have HB1 := Lib.hid (on HB0.out hb1); have HZ1 := Lib.hid (HZ0.out.below hb1); obtain ⟨⟨z0, z1, z2⟩, _⟩ := HZ1.out.three; clear hb1) | (go_at_call 23; (with_reducible refine (set_ref A1 A2 n1 c1 m c2 S k d _ (HR.out.below HB1.out) (good_ok HG.out) (HD.out.below HB1.out) none y HX.out).mono ?_); rintro e w2 ⟨rfl, hb2⟩; have HB2 := Lib.hid (on HB1.out hb2); clear hb2 z0 z1 z2)
    go_ret3
    exact ⟨A, c, A1, n1, c1, S, rfl, HG.out.below HB2.out, HR.out.below HB2.out, HB2.out⟩
  | some S' =>
    obtain ⟨hok, rfl, e1⟩ := setV_yes h.2 hx
    clear e1
    have HO := Lib.hid hok
    clear hx h hr hd hok
    go_enter Try.func11, Try.ntmps11
    go_wp2_with first | (go_at_call 19; (with_reducible refine (set_got A A2 c m c2 S k d _ (HG.out.below HB0.out) (HD.out.below HB0.out) (some S') 0 HX.out).mono ?_); rintro e w1 ⟨g1, cg, rfl, hf1⟩; have HF1 := Lib.hid hf1.1; have HB1 := Lib.hid (on HB0.out hf1.2.2); have HZ1 := Lib.hid (HZ0.out.below hf1.2.2); obtain ⟨⟨z0, z1, z2⟩, _⟩ := HZ1.out.three; clear hf1) | (go_at_call 23; (with_reducible refine (set_ref A1 A2 n1 c1 m c2 S k d _ (HR.out.below HB1.out) (good_ok HG.out) (HD.out.below HB1.out) (some S') 0 HX.out).mono ?_); rintro e w2 ⟨⟨A3, c3, rfl, hr2⟩, hb2⟩; have HR2 := Lib.hid hr2; have HB2 := Lib.hid (on HB1.out hb2); have HF2 := Lib.hid (HF1.out.below hb2); clear z0 z1 z2 hb2 hr2) | (go_at_call 8; (with_reducible refine (bytes_got A3 _ c3 S' _ HR2.out HO.out.fit).mono ?_); rintro e w3 ⟨g3, rfl, hs3, hb3⟩; have HS3 := Lib.hid hs3; have HB3 := Lib.hid (on HB2.out hb3); have HF3 := Lib.hid (HF2.out.below hb3); have HR3 := Lib.hid (HR2.out.below hb3); clear hs3 hb3) | (go_at_call 7; (with_reducible refine (same_got (some ⟨g1, 0, none⟩) (some ⟨g3, 0, none⟩) 512 512 cg 512 (pg S') (pg S') true (decide_eq_true rfl) _ (good_bs HF3.out) HS3.out).mono ?_); rintro e w4 ⟨rfl, hb4⟩; have HB4 := Lib.hid (on HB3.out hb4); have HF4 := Lib.hid (HF3.out.below hb4); have HR4 := Lib.hid (HR3.out.below hb4); clear hb4)
    go_ret3
    exact ⟨some ⟨g1, 0, none⟩, cg, A3, S'.length, c3, S', rfl, HF4.out, HR4.out, HB4.out⟩
set_option maxRecDepth 100000 in
set_option maxHeartbeats 4000000 in
theorem done_drop (A A1 A2 : Option Addr) (c n1 c1 m c2 : Nat) (S : List Sl) (d : List UInt8) (k : Int) (w : World) (h : Good w A c S) (hr : RL w A1 n1 c1 S) (hd : Bs w A2 m c2 d) :
    Calls Try.prog 11 #[.slice A 512 c, .slice A1 n1 c1, .agg #[.int .i64 2, .int .i64 k, .slice A2 m c2]] w (DoneP w) := by
  have HB0 := Lib.hid (al (Below.refl w.heap.size w) (.cells #[.int .i64 2, .int .i64 k, .slice A2 m c2] 30))
  have HZ0 := Lib.hid (Cel.new w 30 #[.int .i64 2, .int .i64 k, .slice A2 m c2] rfl)
  have hn1 : n1 ≤ 1000 := by have := h.2.fit.room; have := hr.len; omega
  have HG := Lib.hid h
  have HR := Lib.hid hr
  have HD := Lib.hid hd
  obtain ⟨x, y, hx⟩ : ∃ x y, dropV S k = (x, y) := ⟨_, _, rfl⟩
  have HX := Lib.hid hx
  cases x with
  | none =>
    have ty : (y != 0) = true := by
      rw [dropV_no hx]; rfl
    have ts := bne_same y
    clear hx h hr hd
    go_enter Try.func11, Try.ntmps11
    go_wp2_with first | (go_at_call 20; (with_reducible refine (drop_got A c S k _ (HG.out.below HB0.out) none y HX.out).mono ?_); rintro e w1 ⟨rfl, hb1⟩; have HB1 := Lib.hid (on HB0.out hb1); have HZ1 := Lib.hid (HZ0.out.below hb1); obtain ⟨⟨z0, z1, z2⟩, _⟩ := HZ1.out.three; clear hb1) | (go_at_call 24; (with_reducible refine (drop_ref A1 n1 c1 S k _ (HR.out.below HB1.out) hn1 none y HX.out).mono ?_); rintro e w2 ⟨rfl, hb2⟩; have HB2 := Lib.hid (on HB1.out hb2); clear hb2 z0 z1 z2)
    go_ret3
    exact ⟨A, c, A1, n1, c1, S, rfl, HG.out.below HB2.out, HR.out.below HB2.out, HB2.out⟩
  | some S' =>
    obtain ⟨hok, rfl, e1⟩ := dropV_yes h.2 hx
    clear e1
    have HO := Lib.hid hok
    clear hx h hr hd hok
    go_enter Try.func11, Try.ntmps11
    go_wp2_with first | (go_at_call 20; (with_reducible refine (drop_got A c S k _ (HG.out.below HB0.out) (some S') 0 HX.out).mono ?_); rintro e w1 ⟨g1, cg, rfl, hf1⟩; have HF1 := Lib.hid hf1.1; have HB1 := Lib.hid (on HB0.out hf1.2.2); have HZ1 := Lib.hid (HZ0.out.below hf1.2.2); obtain ⟨⟨z0, z1, z2⟩, _⟩ := HZ1.out.three; clear hf1) | (go_at_call 24; (with_reducible refine (drop_ref A1 n1 c1 S k _ (HR.out.below HB1.out) hn1 (some S') 0 HX.out).mono ?_); rintro e w2 ⟨⟨A3, c3, rfl, hr2⟩, hb2⟩; have HR2 := Lib.hid hr2; have HB2 := Lib.hid (on HB1.out hb2); have HF2 := Lib.hid (HF1.out.below hb2); clear z0 z1 z2 hb2 hr2) | (go_at_call 8; (with_reducible refine (bytes_got A3 _ c3 S' _ HR2.out HO.out.fit).mono ?_); rintro e w3 ⟨g3, rfl, hs3, hb3⟩; have HS3 := Lib.hid hs3; have HB3 := Lib.hid (on HB2.out hb3); have HF3 := Lib.hid (HF2.out.below hb3); have HR3 := Lib.hid (HR2.out.below hb3); clear hs3 hb3) | (go_at_call 7; (with_reducible refine (same_got (some ⟨g1, 0, none⟩) (some ⟨g3, 0, none⟩) 512 512 cg 512 (pg S') (pg S') true (decide_eq_true rfl) _ (good_bs HF3.out) HS3.out).mono ?_); rintro e w4 ⟨rfl, hb4⟩; have HB4 := Lib.hid (on HB3.out hb4); have HF4 := Lib.hid (HF3.out.below hb4); have HR4 := Lib.hid (HR3.out.below hb4); clear hb4)
    go_ret3
    exact ⟨some ⟨g1, 0, none⟩, cg, A3, S'.length, c3, S', rfl, HF4.out, HR4.out, HB4.out⟩
end Go.Proofs.Ytgoadmkenglglaa.Pg
