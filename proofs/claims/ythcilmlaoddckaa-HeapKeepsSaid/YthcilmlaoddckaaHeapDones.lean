import Derived.Test.YthcilmlaoddckaaHeapPlace
/- One act on the heap and on the document's: what both are then. Put and Set. -/
namespace Go.Proofs.Ythcilmlaoddckaa.Pg
open Go.RowKit Go.Proofs.Ythcilmlaoddckaa.Mem Go.Proofs.Ythcilmlaoddckaa.Right
set_option linter.unusedVariables false

/-- The pages behind an act at a place. -/
def stepH (L : List (List Sl)) (d p s : Int) (l : List UInt8) : List (List Sl) :=
  if d = 0 then (putD L l).1.getD L else if d = 1 then (setH L p s l).1.getD L else if d = 2 then (dropH L p s).1.getD L else L
/-- The types of blocks that an act may turn. -/
abbrev TyA : List TypeId := [55, 28, 72]
/-- What an act leaves: both heaps, still of the same pages. -/
def DoneH (w : World) (n₀ B R : Nat) (L : List (List Sl)) (e : Ending) (w' : World) : Prop := e = .returned (.bool true) ∧ HP w' n₀ B L ∧ RP w' n₀ R L ∧ Frm [55, 28, 72] n₀ w w'
theorem beq_same (y : Int) : (y == y) = true := by simp
set_option maxRecDepth 100000 in
set_option maxHeartbeats 4000000 in
theorem done_putH (n₀ B R : Nat) (L : List (List Sl)) (o : Bool) (p s p' s' : Int) (A2 : Option Addr) (m c2 : Nat) (l : List UInt8) (w : World) (h : HP w n₀ B L) (hr : RP w n₀ R L) (hd : Bs w A2 m c2 l) (hp : -9223372036854775808 ≤ p ∧ p ≤ 9223372036854775807) (hpl : placeV L o p s = (p', s')) :
    Calls Try.prog 10 #[.pointer (some ⟨B, 0, none⟩), .pointer (some ⟨R, 0, none⟩), .agg #[.int .i64 0, .bool o, .int .i64 p, .int .i64 s, .slice A2 m c2]] w (DoneH w n₀ B R ((putD L l).1.getD L)) := by
  obtain ⟨W, hW⟩ : ∃ W, w.alloc (.cells #[.int .i64 0, .bool o, .int .i64 p, .int .i64 s, .slice A2 m c2] 34) = W := ⟨_, rfl⟩
  have HB0 := Lib.hid (show Below w.heap.size w W by rw [← hW]; exact al (Below.refl _ _) _)
  have HA0 := Lib.hid (show HA W w.heap.size 0 o p s A2 m c2 by rw [← hW]; exact Cel.new w _ _ rfl)
  have H := Lib.hid h
  have HR := Lib.hid hr
  have HD := Lib.hid hd
  have HPL := Lib.hid (place_r n₀ R L 0 o p s A2 m c2 W (hr.below HB0.out) hp)
  rw [hpl] at HPL
  obtain ⟨x, q, r, y, hx⟩ : ∃ x q r y, putD L l = (x, q, r, y) := ⟨_, _, _, _, rfl⟩
  have HX := Lib.hid hx
  rw [hx]
  clear hx
  obtain ⟨a0, a1, a2, a3, a4⟩ := HA0.out.five
  clear h hr hd hpl
  go_enter Try.func10, Try.ntmps10
  go_upto_region 1 with fail
  clear hW
  go_upto_region 3 with (go_at_call 15; (with_reducible refine HPL.out.mono ?_); rintro e w1 ⟨rfl, hb1⟩; have HB1 := Lib.hid hb1; clear hb1)
  have hTw : w.heap.size < w1.heap.size := Nat.lt_of_lt_of_le (blk_lt HA0.out) HB1.out.size
  have hBl := Mem.on (Mem.on HB0.out HB1.out) (al (al (Below.refl w1.heap.size w1) (.cells #[.int .i64 p', .int .i64 s'] 31)) (.cells #[.int .i64 p', .int .i64 s'] 62))
  have hA2 : HA _ _ _ _ _ _ _ _ _ := Cel.alloc (Cel.alloc (HA0.out.below HB1.out) (.cells #[.int .i64 p', .int .i64 s'] 31)) (.cells #[.int .i64 p', .int .i64 s'] 62)
  have hT7 := (Cel.new w1 31 #[.int .i64 p', .int .i64 s'] rfl).alloc (.cells #[.int .i64 p', .int .i64 s'] 62)
  have hT8 := Cel.new (w1.alloc (.cells #[.int .i64 p', .int .i64 s'] 31)) 62 #[.int .i64 p', .int .i64 s'] (B := w1.heap.size + 1) (by simp)
  generalize (w1.alloc (.cells #[.int .i64 p', .int .i64 s'] 31)).alloc (.cells #[.int .i64 p', .int .i64 s'] 62) = W2 at hBl hA2 hT7 hT8 ⊢
  generalize w1.heap.size = T at hTw hT7 hT8 ⊢
  have HB2 := Lib.hid hBl
  have HA2 := Lib.hid hA2
  have HT7 := Lib.hid hT7
  have HT8 := Lib.hid hT8
  have HF2 := Lib.hid (show Frm [55, 28, 72] n₀ w W2 from Frm.of hBl H.out.size)
  have HH2 := Lib.hid (H.out.below hBl)
  have HR2 := Lib.hid (HR.out.below hBl)
  have HD2 := Lib.hid (HD.out.below hBl)
  clear hBl hA2 hT7 hT8 a0 a1 a2 a3 a4
  obtain ⟨a0, a1, a2, a3, a4⟩ := HA2.out.five
  have b0 := HT7.out.at_ 0
  have b1 := HT7.out.at_ 1
  have e0 := HT8.out.at_ 0
  have e1 := HT8.out.at_ 1
  go_upto_region 6 with (go_at_call 18; (with_reducible refine (put_h n₀ B L A2 m c2 l _ HH2.out HD2.out x q r y HX.out).mono ?_); rintro e w3 ⟨rfl, hp3, hf3⟩; have HP3 := Lib.hid hp3; have HF3 := Lib.hid hf3; clear hp3 hf3)
  have hP4 := HP3.out.below (al (Below.refl _ _) (.cells #[.int .i64 q, .int .i64 r] 31))
  have hF4 := HF3.out.on (Nat.le_trans H.out.size HB2.out.size) (al (Below.refl _ _) (.cells #[.int .i64 q, .int .i64 r] 31))
  have hZ4 := Cel.new w3 31 #[.int .i64 q, .int .i64 r] rfl
  have hlt3 : T + 1 < w3.heap.size := Nat.lt_of_lt_of_le (blk_lt HT8.out) HF3.out.1.size
  generalize w3.alloc (.cells #[.int .i64 q, .int .i64 r] 31) = W4 at hP4 hF4 hZ4 ⊢
  generalize w3.heap.size = U at hlt3 hZ4 ⊢
  have HP4 := Lib.hid hP4
  have HF4 := Lib.hid hF4
  have HZ4 := Lib.hid hZ4
  have HR4 := Lib.hid (HR2.out.frm hF4 (by decide) (by decide) (by decide))
  have HD4 := Lib.hid (hF4.bs HD2.out)
  have HA4 := Lib.hid (HA2.out.frm hF4 (by decide))
  have HT74 := Lib.hid (hF4.cel (by decide) HT7.out)
  have HT84 := Lib.hid (hF4.cel (by decide) HT8.out)
  clear hP4 hF4 hZ4 a0 a1 a2 a3 a4 b0 b1 e0 e1
  obtain ⟨a0, a1, a2, a3, a4⟩ := HA4.out.five
  have b0 := HT74.out.at_ 0
  have b1 := HT74.out.at_ 1
  have e0 := HT84.out.at_ 0
  have e1 := HT84.out.at_ 1
  go_upto_region 7 with (go_at_call 22; (with_reducible refine (put_r n₀ R L A2 m c2 l _ HR4.out HD4.out x q r y HX.out).mono ?_); rintro e w5 ⟨rfl, hr5, hf5⟩; have HR5 := Lib.hid hr5; have HF5 := Lib.hid hf5; clear hr5 hf5)
  have hR6 := HR5.out.below (al (Below.refl _ _) (.cells #[.int .i64 q, .int .i64 r] 62))
  have hP6 := (HP4.out.frm HF5.out (by decide) (by decide)).below (al (Below.refl _ _) (.cells #[.int .i64 q, .int .i64 r] 62))
  have hF6 := ((HF2.out.trans (HF4.out.more (by decide))).trans (HF5.out.more (by decide))).on H.out.size (al (Below.refl _ _) (.cells #[.int .i64 q, .int .i64 r] 62))
  have hZ6 := (HF5.out.cel (by decide) HZ4.out).alloc (.cells #[.int .i64 q, .int .i64 r] 62)
  have hY6 := Cel.new w5 62 #[.int .i64 q, .int .i64 r] rfl
  generalize w5.alloc (.cells #[.int .i64 q, .int .i64 r] 62) = W6 at hR6 hP6 hF6 hZ6 hY6 ⊢
  generalize w5.heap.size = V at hY6 ⊢
  have HR6 := Lib.hid hR6
  have HP6 := Lib.hid hP6
  have HF6 := Lib.hid hF6
  clear a0 a1 a2 a3 a4 b0 b1 e0 e1 hR6 hP6 hF6
  have u0 := hZ6.at_ 0
  have u1 := hZ6.at_ 1
  have v0 := hY6.at_ 0
  have v1 := hY6.at_ 1
  clear hZ6 hY6
  have ty := beq_same y
  have tq := beq_same q
  have tr := beq_same r
  go_wp2
  go_ret
  exact ⟨rfl, HP6.out, HR6.out, HF6.out⟩
set_option maxRecDepth 100000 in
set_option maxHeartbeats 4000000 in
theorem done_setH (n₀ B R : Nat) (L : List (List Sl)) (o : Bool) (p s p' s' : Int) (A2 : Option Addr) (m c2 : Nat) (l : List UInt8) (w : World) (h : HP w n₀ B L) (hr : RP w n₀ R L) (hd : Bs w A2 m c2 l) (hp : -9223372036854775808 ≤ p ∧ p ≤ 9223372036854775807) (hpl : placeV L o p s = (p', s')) :
    Calls Try.prog 10 #[.pointer (some ⟨B, 0, none⟩), .pointer (some ⟨R, 0, none⟩), .agg #[.int .i64 1, .bool o, .int .i64 p, .int .i64 s, .slice A2 m c2]] w (DoneH w n₀ B R ((setH L p' s' l).1.getD L)) := by
  obtain ⟨W, hW⟩ : ∃ W, w.alloc (.cells #[.int .i64 1, .bool o, .int .i64 p, .int .i64 s, .slice A2 m c2] 34) = W := ⟨_, rfl⟩
  have HB0 := Lib.hid (show Below w.heap.size w W by rw [← hW]; exact al (Below.refl _ _) _)
  have HA0 := Lib.hid (show HA W w.heap.size 1 o p s A2 m c2 by rw [← hW]; exact Cel.new w _ _ rfl)
  have H := Lib.hid h
  have HR := Lib.hid hr
  have HD := Lib.hid hd
  have HPL := Lib.hid (place_r n₀ R L 1 o p s A2 m c2 W (hr.below HB0.out) hp)
  rw [hpl] at HPL
  obtain ⟨x, q, r, y, hx⟩ : ∃ x q r y, setH L p' s' l = (x, q, r, y) := ⟨_, _, _, _, rfl⟩
  have HX := Lib.hid hx
  rw [hx]
  clear hx
  obtain ⟨a0, a1, a2, a3, a4⟩ := HA0.out.five
  clear h hr hd hpl
  go_enter Try.func10, Try.ntmps10
  go_upto_region 1 with fail
  clear hW
  go_upto_region 3 with (go_at_call 15; (with_reducible refine HPL.out.mono ?_); rintro e w1 ⟨rfl, hb1⟩; have HB1 := Lib.hid hb1; clear hb1)
  have hTw : w.heap.size < w1.heap.size := Nat.lt_of_lt_of_le (blk_lt HA0.out) HB1.out.size
  have hBl := Mem.on (Mem.on HB0.out HB1.out) (al (al (Below.refl w1.heap.size w1) (.cells #[.int .i64 p', .int .i64 s'] 31)) (.cells #[.int .i64 p', .int .i64 s'] 62))
  have hA2 : HA _ _ _ _ _ _ _ _ _ := Cel.alloc (Cel.alloc (HA0.out.below HB1.out) (.cells #[.int .i64 p', .int .i64 s'] 31)) (.cells #[.int .i64 p', .int .i64 s'] 62)
  have hT7 := (Cel.new w1 31 #[.int .i64 p', .int .i64 s'] rfl).alloc (.cells #[.int .i64 p', .int .i64 s'] 62)
  have hT8 := Cel.new (w1.alloc (.cells #[.int .i64 p', .int .i64 s'] 31)) 62 #[.int .i64 p', .int .i64 s'] (B := w1.heap.size + 1) (by simp)
  generalize (w1.alloc (.cells #[.int .i64 p', .int .i64 s'] 31)).alloc (.cells #[.int .i64 p', .int .i64 s'] 62) = W2 at hBl hA2 hT7 hT8 ⊢
  generalize w1.heap.size = T at hTw hT7 hT8 ⊢
  have HB2 := Lib.hid hBl
  have HA2 := Lib.hid hA2
  have HT7 := Lib.hid hT7
  have HT8 := Lib.hid hT8
  have HF2 := Lib.hid (show Frm [55, 28, 72] n₀ w W2 from Frm.of hBl H.out.size)
  have HH2 := Lib.hid (H.out.below hBl)
  have HR2 := Lib.hid (HR.out.below hBl)
  have HD2 := Lib.hid (HD.out.below hBl)
  clear hBl hA2 hT7 hT8 a0 a1 a2 a3 a4
  obtain ⟨a0, a1, a2, a3, a4⟩ := HA2.out.five
  have b0 := HT7.out.at_ 0
  have b1 := HT7.out.at_ 1
  have e0 := HT8.out.at_ 0
  have e1 := HT8.out.at_ 1
  go_upto_region 10 with (go_at_call 19; (with_reducible refine (set_h n₀ B L p' s' A2 m c2 l _ HH2.out HD2.out x q r y HX.out).mono ?_); rintro e w3 ⟨rfl, hp3, hf3⟩; have HP3 := Lib.hid hp3; have HF3 := Lib.hid hf3; clear hp3 hf3)
  have hP4 := HP3.out.below (al (Below.refl _ _) (.cells #[.int .i64 q, .int .i64 r] 31))
  have hF4 := HF3.out.on (Nat.le_trans H.out.size HB2.out.size) (al (Below.refl _ _) (.cells #[.int .i64 q, .int .i64 r] 31))
  have hZ4 := Cel.new w3 31 #[.int .i64 q, .int .i64 r] rfl
  have hlt3 : T + 1 < w3.heap.size := Nat.lt_of_lt_of_le (blk_lt HT8.out) HF3.out.1.size
  generalize w3.alloc (.cells #[.int .i64 q, .int .i64 r] 31) = W4 at hP4 hF4 hZ4 ⊢
  generalize w3.heap.size = U at hlt3 hZ4 ⊢
  have HP4 := Lib.hid hP4
  have HF4 := Lib.hid hF4
  have HZ4 := Lib.hid hZ4
  have HR4 := Lib.hid (HR2.out.frm hF4 (by decide) (by decide) (by decide))
  have HD4 := Lib.hid (hF4.bs HD2.out)
  have HA4 := Lib.hid (HA2.out.frm hF4 (by decide))
  have HT74 := Lib.hid (hF4.cel (by decide) HT7.out)
  have HT84 := Lib.hid (hF4.cel (by decide) HT8.out)
  clear hP4 hF4 hZ4 a0 a1 a2 a3 a4 b0 b1 e0 e1
  obtain ⟨a0, a1, a2, a3, a4⟩ := HA4.out.five
  have b0 := HT74.out.at_ 0
  have b1 := HT74.out.at_ 1
  have e0 := HT84.out.at_ 0
  have e1 := HT84.out.at_ 1
  go_upto_region 11 with (go_at_call 23; (with_reducible refine (set_r n₀ R L p' s' A2 m c2 l _ HR4.out HD4.out x q r y HX.out).mono ?_); rintro e w5 ⟨rfl, hr5, hf5⟩; have HR5 := Lib.hid hr5; have HF5 := Lib.hid hf5; clear hr5 hf5)
  have hR6 := HR5.out.below (al (Below.refl _ _) (.cells #[.int .i64 q, .int .i64 r] 62))
  have hP6 := (HP4.out.frm HF5.out (by decide) (by decide)).below (al (Below.refl _ _) (.cells #[.int .i64 q, .int .i64 r] 62))
  have hF6 := ((HF2.out.trans (HF4.out.more (by decide))).trans (HF5.out.more (by decide))).on H.out.size (al (Below.refl _ _) (.cells #[.int .i64 q, .int .i64 r] 62))
  have hZ6 := (HF5.out.cel (by decide) HZ4.out).alloc (.cells #[.int .i64 q, .int .i64 r] 62)
  have hY6 := Cel.new w5 62 #[.int .i64 q, .int .i64 r] rfl
  generalize w5.alloc (.cells #[.int .i64 q, .int .i64 r] 62) = W6 at hR6 hP6 hF6 hZ6 hY6 ⊢
  generalize w5.heap.size = V at hY6 ⊢
  have HR6 := Lib.hid hR6
  have HP6 := Lib.hid hP6
  have HF6 := Lib.hid hF6
  clear a0 a1 a2 a3 a4 b0 b1 e0 e1 hR6 hP6 hF6
  have u0 := hZ6.at_ 0
  have u1 := hZ6.at_ 1
  have v0 := hY6.at_ 0
  have v1 := hY6.at_ 1
  clear hZ6 hY6
  have ty := beq_same y
  have tq := beq_same q
  have tr := beq_same r
  go_wp2
  go_ret
  exact ⟨rfl, HP6.out, HR6.out, HF6.out⟩
end Go.Proofs.Ythcilmlaoddckaa.Pg
/- One act on the heap and on the document's: Drop and Get; whatever act. -/
namespace Go.Proofs.Ythcilmlaoddckaa.Pg
open Go.RowKit Go.Proofs.Ythcilmlaoddckaa.Mem Go.Proofs.Ythcilmlaoddckaa.Right
set_option linter.unusedVariables false

theorem same_self (A C : Option Addr) (n ca cb : Nat) (l : List UInt8) (w : World) (h1 : Bs w A n ca l) (h2 : Bs w C n cb l) :
    Calls Try.prog 17 #[.slice A n ca, .slice C n cb] w fun e w' => e = .returned (.bool true) ∧ Below w.heap.size w w' := Refs.same_got A C n n ca cb l l true (decide_eq_true rfl) w h1 h2
theorem getH_zero {L : List (List Sl)} {p s y : Int} {v : List UInt8} (hx : getH L p s = (some v, y)) : y = 0 := by
  unfold getH at hx
  split at hx
  · unfold getV at hx
    split at hx
    · split at hx
      · cases hx; rfl
      · cases hx
    · cases hx
  · cases hx
set_option maxRecDepth 100000 in
set_option maxHeartbeats 4000000 in
theorem done_dropH (n₀ B R : Nat) (L : List (List Sl)) (o : Bool) (p s p' s' : Int) (A2 : Option Addr) (m c2 : Nat) (l : List UInt8) (w : World) (h : HP w n₀ B L) (hr : RP w n₀ R L) (hd : Bs w A2 m c2 l) (hp : -9223372036854775808 ≤ p ∧ p ≤ 9223372036854775807) (hpl : placeV L o p s = (p', s')) :
    Calls Try.prog 10 #[.pointer (some ⟨B, 0, none⟩), .pointer (some ⟨R, 0, none⟩), .agg #[.int .i64 2, .bool o, .int .i64 p, .int .i64 s, .slice A2 m c2]] w (DoneH w n₀ B R ((dropH L p' s').1.getD L)) := by
  obtain ⟨W, hW⟩ : ∃ W, w.alloc (.cells #[.int .i64 2, .bool o, .int .i64 p, .int .i64 s, .slice A2 m c2] 34) = W := ⟨_, rfl⟩
  have HB0 := Lib.hid (show Below w.heap.size w W by rw [← hW]; exact al (Below.refl _ _) _)
  have HA0 := Lib.hid (show HA W w.heap.size 2 o p s A2 m c2 by rw [← hW]; exact Cel.new w _ _ rfl)
  have H := Lib.hid h
  have HR := Lib.hid hr
  have HD := Lib.hid hd
  have HPL := Lib.hid (place_r n₀ R L 2 o p s A2 m c2 W (hr.below HB0.out) hp)
  rw [hpl] at HPL
  obtain ⟨x, y, hx⟩ : ∃ x y, dropH L p' s' = (x, y) := ⟨_, _, rfl⟩
  have HX := Lib.hid hx
  rw [hx]
  clear hx
  obtain ⟨a0, a1, a2, a3, a4⟩ := HA0.out.five
  clear h hr hd hpl
  go_enter Try.func10, Try.ntmps10
  go_upto_region 1 with fail
  clear hW
  go_upto_region 3 with (go_at_call 15; (with_reducible refine HPL.out.mono ?_); rintro e w1 ⟨rfl, hb1⟩; have HB1 := Lib.hid hb1; clear hb1)
  have hTw : w.heap.size < w1.heap.size := Nat.lt_of_lt_of_le (blk_lt HA0.out) HB1.out.size
  have hBl := Mem.on (Mem.on HB0.out HB1.out) (al (al (Below.refl w1.heap.size w1) (.cells #[.int .i64 p', .int .i64 s'] 31)) (.cells #[.int .i64 p', .int .i64 s'] 62))
  have hA2 : HA _ _ _ _ _ _ _ _ _ := Cel.alloc (Cel.alloc (HA0.out.below HB1.out) (.cells #[.int .i64 p', .int .i64 s'] 31)) (.cells #[.int .i64 p', .int .i64 s'] 62)
  have hT7 := (Cel.new w1 31 #[.int .i64 p', .int .i64 s'] rfl).alloc (.cells #[.int .i64 p', .int .i64 s'] 62)
  have hT8 := Cel.new (w1.alloc (.cells #[.int .i64 p', .int .i64 s'] 31)) 62 #[.int .i64 p', .int .i64 s'] (B := w1.heap.size + 1) (by simp)
  generalize (w1.alloc (.cells #[.int .i64 p', .int .i64 s'] 31)).alloc (.cells #[.int .i64 p', .int .i64 s'] 62) = W2 at hBl hA2 hT7 hT8 ⊢
  generalize w1.heap.size = T at hTw hT7 hT8 ⊢
  have HB2 := Lib.hid hBl
  have HA2 := Lib.hid hA2
  have HT7 := Lib.hid hT7
  have HT8 := Lib.hid hT8
  have HF2 := Lib.hid (show Frm [55, 28, 72] n₀ w W2 from Frm.of hBl H.out.size)
  have HH2 := Lib.hid (H.out.below hBl)
  have HR2 := Lib.hid (HR.out.below hBl)
  have HD2 := Lib.hid (HD.out.below hBl)
  clear hBl hA2 hT7 hT8 a0 a1 a2 a3 a4
  obtain ⟨a0, a1, a2, a3, a4⟩ := HA2.out.five
  have b0 := HT7.out.at_ 0
  have b1 := HT7.out.at_ 1
  have e0 := HT8.out.at_ 0
  have e1 := HT8.out.at_ 1
  have HX1 := Lib.hid (drop_h n₀ B L p' s' _ (HH2.out.below (Below.refl _ _).drew) x y HX.out)
  have HRd := Lib.hid (show RP W2.drew n₀ R L from HR2.out.below (Below.refl _ _).drew)
  have HTa := Lib.hid (show Cel W2.drew T 31 #[.int .i64 p', .int .i64 s'] from HT7.out)
  have HTb := Lib.hid (show Cel W2.drew (T + 1) 62 #[.int .i64 p', .int .i64 s'] from HT8.out)
  have ty := beq_same y
  go_upto_region 13 with fail
  go_region_held3 (fun W => W.cell? ⟨T, 0, none⟩ = some (.int .i64 p') ∧ W.cell? ⟨T, 1, none⟩ = some (.int .i64 s') ∧ W.cell? ⟨T + 1, 0, none⟩ = some (.int .i64 p') ∧ W.cell? ⟨T + 1, 1, none⟩ = some (.int .i64 s'))
    (first | go_keep | exact ⟨g0, g1, g2, g3⟩ | exact ⟨k0, k1, k2, k3⟩)
    (first | (go_simp; go_at_call 20; (with_reducible refine HX1.out.mono ?_); rintro e w3 ⟨rfl, hp3, hf3⟩; have HP3 := Lib.hid hp3; have HF3 := Lib.hid hf3; have g0 := (hf3.cel (by decide) HTa.out).at_ 0; have g1 := (hf3.cel (by decide) HTa.out).at_ 1; have g2 := (hf3.cel (by decide) HTb.out).at_ 0; have g3 := (hf3.cel (by decide) HTb.out).at_ 1; clear hp3 hf3) | (go_simp; go_at_call 24; (with_reducible refine (drop_r n₀ R L p' s' _ (HRd.out.frm HF3.out (by decide) (by decide) (by decide)) x y HX.out).mono ?_); rintro e w5 ⟨rfl, hr5, hf5⟩; have HR5 := Lib.hid hr5; have HF5 := Lib.hid hf5; have k0 := (hf5.cel (by decide) (HF3.out.cel (by decide) HTa.out)).at_ 0; have k1 := (hf5.cel (by decide) (HF3.out.cel (by decide) HTa.out)).at_ 1; have k2 := (hf5.cel (by decide) (HF3.out.cel (by decide) HTb.out)).at_ 0; have k3 := (hf5.cel (by decide) (HF3.out.cel (by decide) HTb.out)).at_ 1; clear hr5 hf5))
  go_wp2
  go_ret
  exact ⟨rfl, HP3.out.frm HF5.out (by decide) (by decide), HR5.out, ((HF2.out.on H.out.size (Below.refl _ _).drew).trans (HF3.out.more (by decide))).trans (HF5.out.more (by decide))⟩
set_option maxRecDepth 100000 in
set_option maxHeartbeats 4000000 in
theorem done_getH (n₀ B R : Nat) (L : List (List Sl)) (z : Int) (o : Bool) (p s p' s' : Int) (A2 : Option Addr) (m c2 : Nat) (l : List UInt8) (w : World) (h : HP w n₀ B L) (hr : RP w n₀ R L) (hd : Bs w A2 m c2 l) (hp : -9223372036854775808 ≤ p ∧ p ≤ 9223372036854775807) (hpl : placeV L o p s = (p', s')) (hz : z ≠ 0 ∧ z ≠ 1 ∧ z ≠ 2) :
    Calls Try.prog 10 #[.pointer (some ⟨B, 0, none⟩), .pointer (some ⟨R, 0, none⟩), .agg #[.int .i64 z, .bool o, .int .i64 p, .int .i64 s, .slice A2 m c2]] w (DoneH w n₀ B R (L)) := by
  obtain ⟨W, hW⟩ : ∃ W, w.alloc (.cells #[.int .i64 z, .bool o, .int .i64 p, .int .i64 s, .slice A2 m c2] 34) = W := ⟨_, rfl⟩
  have HB0 := Lib.hid (show Below w.heap.size w W by rw [← hW]; exact al (Below.refl _ _) _)
  have HA0 := Lib.hid (show HA W w.heap.size z o p s A2 m c2 by rw [← hW]; exact Cel.new w _ _ rfl)
  have H := Lib.hid h
  have HR := Lib.hid hr
  have HD := Lib.hid hd
  have HPL := Lib.hid (place_r n₀ R L z o p s A2 m c2 W (hr.below HB0.out) hp)
  rw [hpl] at HPL
  obtain ⟨x, y, hx⟩ : ∃ x y, getH L p' s' = (x, y) := ⟨_, _, rfl⟩
  have HX := Lib.hid hx
  clear hx
  obtain ⟨a0, a1, a2, a3, a4⟩ := HA0.out.five
  clear h hr hd hpl
  go_enter Try.func10, Try.ntmps10
  go_upto_region 1 with fail
  clear hW
  go_upto_region 3 with (go_at_call 15; (with_reducible refine HPL.out.mono ?_); rintro e w1 ⟨rfl, hb1⟩; have HB1 := Lib.hid hb1; clear hb1)
  have hTw : w.heap.size < w1.heap.size := Nat.lt_of_lt_of_le (blk_lt HA0.out) HB1.out.size
  have hBl := Mem.on (Mem.on HB0.out HB1.out) (al (al (Below.refl w1.heap.size w1) (.cells #[.int .i64 p', .int .i64 s'] 31)) (.cells #[.int .i64 p', .int .i64 s'] 62))
  have hA2 : HA _ _ _ _ _ _ _ _ _ := Cel.alloc (Cel.alloc (HA0.out.below HB1.out) (.cells #[.int .i64 p', .int .i64 s'] 31)) (.cells #[.int .i64 p', .int .i64 s'] 62)
  have hT7 := (Cel.new w1 31 #[.int .i64 p', .int .i64 s'] rfl).alloc (.cells #[.int .i64 p', .int .i64 s'] 62)
  have hT8 := Cel.new (w1.alloc (.cells #[.int .i64 p', .int .i64 s'] 31)) 62 #[.int .i64 p', .int .i64 s'] (B := w1.heap.size + 1) (by simp)
  generalize (w1.alloc (.cells #[.int .i64 p', .int .i64 s'] 31)).alloc (.cells #[.int .i64 p', .int .i64 s'] 62) = W2 at hBl hA2 hT7 hT8 ⊢
  generalize w1.heap.size = T at hTw hT7 hT8 ⊢
  have HB2 := Lib.hid hBl
  have HA2 := Lib.hid hA2
  have HT7 := Lib.hid hT7
  have HT8 := Lib.hid hT8
  have HF2 := Lib.hid (show Frm [55, 28, 72] n₀ w W2 from Frm.of hBl H.out.size)
  have HH2 := Lib.hid (H.out.below hBl)
  have HR2 := Lib.hid (HR.out.below hBl)
  have HD2 := Lib.hid (HD.out.below hBl)
  clear hBl hA2 hT7 hT8 a0 a1 a2 a3 a4
  obtain ⟨a0, a1, a2, a3, a4⟩ := HA2.out.five
  have b0 := HT7.out.at_ 0
  have b1 := HT7.out.at_ 1
  have e0 := HT8.out.at_ 0
  have e1 := HT8.out.at_ 1
  have t0 : (z == 0) = false := beq_no hz.1
  have t1 : (z == 1) = false := beq_no hz.2.1
  have t2 : (z == 2) = false := beq_no hz.2.2
  have ty := beq_same y
  have HK2 := Lib.hid (show ∀ W, Below W2.heap.size W2 W → (W.cell? ⟨T, 0, none⟩ = some (.int .i64 p') ∧ W.cell? ⟨T, 1, none⟩ = some (.int .i64 s')) ∧ W.cell? ⟨T + 1, 0, none⟩ = some (.int .i64 p') ∧ W.cell? ⟨T + 1, 1, none⟩ = some (.int .i64 s') from fun W hW => ⟨⟨(HT7.out.below hW).at_ 0, (HT7.out.below hW).at_ 1⟩, (HT8.out.below hW).at_ 0, (HT8.out.below hW).at_ 1⟩)
  clear hz
  cases x with
  | none =>
    go_wp2_with first | (go_at_call 16; go_loud ((with_reducible refine (get_h n₀ B L p' s' _ HH2.out none y HX.out).mono ?_); rintro e w3 ⟨rfl, hb3⟩; have HB3 := Lib.hid hb3; clear b0 b1 e0 e1; obtain ⟨⟨b0, b1⟩, e0, e1⟩ := HK2.out w3 hb3; clear hb3)) | (go_at_call 25; go_loud ((with_reducible refine (get_r n₀ R L p' s' _ (HR2.out.below HB3.out) none y HX.out).mono ?_); rintro e w4 ⟨rfl, hb4⟩; have HB4 := Lib.hid (Mem.on HB3.out hb4); clear hb4)) | (go_at_call 17; go_loud ((with_reducible refine (same_self none none 0 0 0 [] _ (no_data _) (no_data _)).mono ?_); rintro e w5 ⟨rfl, hb5⟩; have HB5 := Lib.hid (Mem.on HB4.out hb5); clear hb5))
    go_ret
    exact ⟨rfl, HH2.out.below HB5.out, HR2.out.below HB5.out, HF2.out.on H.out.size HB5.out⟩
  | some v =>
    obtain rfl := getH_zero HX.out
    go_wp2_with first | (go_at_call 16; go_loud ((with_reducible refine (get_h n₀ B L p' s' _ HH2.out (some v) 0 HX.out).mono ?_); rintro e w3 ⟨A3, c3, rfl, hs3, hb3⟩; have HS3 := Lib.hid hs3; have HB3 := Lib.hid hb3; clear b0 b1 e0 e1; obtain ⟨⟨b0, b1⟩, e0, e1⟩ := HK2.out w3 hb3; clear hb3 hs3)) | (go_at_call 25; go_loud ((with_reducible refine (get_r n₀ R L p' s' _ (HR2.out.below HB3.out) (some v) 0 HX.out).mono ?_); rintro e w4 ⟨A4, c4, rfl, hs4, hb4⟩; have HS4 := Lib.hid hs4; have HS34 := Lib.hid (HS3.out.below hb4); have HB4 := Lib.hid (Mem.on HB3.out hb4); clear hb4 hs4)) | (go_at_call 17; go_loud ((with_reducible refine (Refs.same_got A3 A4 v.length v.length c3 c4 v v true (decide_eq_true rfl) _ HS34.out HS4.out).mono ?_); rintro e w5 ⟨rfl, hb5⟩; have HB5 := Lib.hid (Mem.on HB4.out hb5); clear hb5))
    go_ret
    exact ⟨rfl, HH2.out.below HB5.out, HR2.out.below HB5.out, HF2.out.on H.out.size HB5.out⟩
/-- An act, whatever it is. -/
theorem done_act (n₀ B R : Nat) (L : List (List Sl)) (z : Int) (o : Bool) (p s : Int) (A2 : Option Addr) (m c2 : Nat) (l : List UInt8) (w : World) (h : HP w n₀ B L) (hr : RP w n₀ R L) (hd : Bs w A2 m c2 l) (hp : -9223372036854775808 ≤ p ∧ p ≤ 9223372036854775807) :
    Calls Try.prog 10 #[.pointer (some ⟨B, 0, none⟩), .pointer (some ⟨R, 0, none⟩), .agg #[.int .i64 z, .bool o, .int .i64 p, .int .i64 s, .slice A2 m c2]] w (DoneH w n₀ B R (stepH L z (placeV L o p s).1 (placeV L o p s).2 l)) := by
  obtain ⟨⟨p', s'⟩, hpl⟩ : ∃ q, placeV L o p s = q := ⟨_, rfl⟩
  rw [hpl]
  unfold stepH
  by_cases h0 : z = 0
  · subst h0
    exact done_putH n₀ B R L o p s p' s' A2 m c2 l w h hr hd hp hpl
  rw [if_neg h0]
  by_cases h1 : z = 1
  · subst h1
    exact done_setH n₀ B R L o p s p' s' A2 m c2 l w h hr hd hp hpl
  rw [if_neg h1]
  by_cases h2 : z = 2
  · subst h2
    exact done_dropH n₀ B R L o p s p' s' A2 m c2 l w h hr hd hp hpl
  rw [if_neg h2]
  exact done_getH n₀ B R L z o p s p' s' A2 m c2 l w h hr hd hp hpl ⟨h0, h1, h2⟩
end Go.Proofs.Ythcilmlaoddckaa.Pg
