import Derived.Test.YthcilmlaoddckaaHeapPageL
import Derived.Deep.CutRange
import Derived.Deep.RegionLaw
/- The heap's struct in memory; whether a call made it; whether data is short enough; the page of a place. -/
namespace Go.Proofs.Ythcilmlaoddckaa.Pg
open Go.RowKit Go.Proofs.Ythcilmlaoddckaa.Mem Go.Proofs.Ythcilmlaoddckaa.Right
set_option linter.unusedVariables false

/-- Block B is a heap of these pages. -/
def HP (w : World) (n₀ B : Nat) (L : List (List Sl)) : Prop := n₀ ≤ B ∧ HOk L ∧ ∃ A n c, Cel w B 55 #[.bool true, .slice A n c] ∧ PL w A n c L
theorem HP.below {w w' : World} {n₀ B : Nat} {L : List (List Sl)} (h : HP w n₀ B L) (hb : Below w.heap.size w w') : HP w' n₀ B L := by
  obtain ⟨h1, h2, A, n, c, h3, h4⟩ := h
  exact ⟨h1, h2, A, n, c, h3.below hb, h4.below hb⟩
theorem HP.frm {T : List TypeId} {n₁ : Nat} {w w' : World} {n₀ B : Nat} {L : List (List Sl)} (h : HP w n₀ B L) (hf : Frm T n₁ w w') (h1 : 55 ∉ T) (h2 : 32 ∉ T) : HP w' n₀ B L := by
  obtain ⟨k1, k2, A, n, c, k3, k4⟩ := h
  exact ⟨k1, k2, A, n, c, hf.cel h1 k3, hf.pl h2 k4⟩
theorem HP.lt {w : World} {n₀ B : Nat} {L : List (List Sl)} (h : HP w n₀ B L) : B < w.heap.size := by
  obtain ⟨_, _, A, n, c, h3, _⟩ := h
  exact blk_lt h3
theorem HP.ok {w : World} {n₀ B : Nat} {L : List (List Sl)} (h : HP w n₀ B L) : HOk L := h.2.1
theorem HP.base {w : World} {n₀ B : Nat} {L : List (List Sl)} (h : HP w n₀ B L) : n₀ ≤ B := h.1
/-- The heap's cells, and its pages. -/
theorem HP.open_ {w : World} {n₀ B : Nat} {L : List (List Sl)} (h : HP w n₀ B L) :
    ∃ A n c, (w.cell? ⟨B, 0, none⟩ = some (.bool true) ∧ w.cell? ⟨B, 1, none⟩ = some (.slice A n c) ∧ w.frozen? ⟨B, 1, none⟩ = false) ∧ Cel w B 55 #[.bool true, .slice A n c] ∧ PL w A n c L := by
  obtain ⟨_, _, A, n, c, h3, h4⟩ := h
  exact ⟨A, n, c, ⟨h3.at_ 0, h3.at_ 1, h3.open_ 1⟩, h3, h4⟩
theorem no_byte_h {x : Bool} {A : Option Addr} {n c : Nat} (j : Nat) (z : Int) : (#[Value.bool x, .slice A n c] : Array Value)[j]? ≠ some (.int .u8 z) := by
  match j with
  | 0 => intro h; cases h
  | 1 => intro h; cases h
  | j + 2 => intro h; simp at h
theorem Frm.fresh {T : List TypeId} {n₀ b i : Nat} {w w1 : World} (h : Frm T n₀ w w1) (hb : w.heap.size ≤ b) (hn : n₀ ≤ b) (v : Value) : Frm T n₀ w (w1.setCell ⟨b, i, none⟩ v) := by
  refine ⟨h.1.setCell (p := ⟨b, i, none⟩) hn v, fun j cs t fr hj ht => ?_, fun p z hp => ?_⟩
  · show (w1.heap.modify b _)[j]? = _
    rw [Array.getElem?_modify, if_neg (by have := blk_lt hj; omega)]
    exact h.2.1 j cs t fr hj ht
  · rw [cell_set _ _ _ _ _ (by have := cell_lt' hp; omega)]
    exact h.2.2 p z hp
/-- A heap has other pages. -/
theorem HP.turn {w : World} {n₀ B n c : Nat} {A : Option Addr} {L L' : List (List Sl)} (h : HP w n₀ B L) (hp : PL w A n c L') (hO : HOk L') :
    HP (w.setCell ⟨B, 1, none⟩ (.slice A n c)) n₀ B L' ∧ Frm [55] n₀ w (w.setCell ⟨B, 1, none⟩ (.slice A n c)) := by
  obtain ⟨h1, h2, A0, m, c0, h3, h4⟩ := h
  have hf : Frm [55] n₀ w (w.setCell ⟨B, 1, none⟩ (.slice A n c)) := Frm.set h3 (by decide) h1 no_byte_h _
  exact ⟨⟨h1, hO, A, n, c, h3.set 1 _, hf.pl (by decide) hp⟩, hf⟩
theorem new_h (w : World) : Calls Try.prog 7 #[] w fun e w' => ∃ B, e = .returned (.pointer (some ⟨B, 0, none⟩)) ∧ HP w' w.heap.size B [] ∧ Below w.heap.size w w' := by
  go_enter Try.func7, Try.ntmps7
  go_wp2
  go_ret
  exact ⟨_, rfl, ⟨Nat.le_refl _, HOk.nil, none, 0, 0, Cel.new w _ _ rfl, PL.nil _⟩, al (Below.refl _ _) _⟩
theorem check_h (n₀ B : Nat) (L : List (List Sl)) (w : World) (h : HP w n₀ B L) : Calls Try.prog 36 #[.pointer (some ⟨B, 0, none⟩)] w fun e w' => e = .returned (.int .i64 0) ∧ w' = w := by
  obtain ⟨A, n, c, ⟨h0, h1, h2⟩, _⟩ := h.open_
  go_enter Try.func36, Try.ntmps36
  go_wp2
  go_ret
  exact ⟨rfl, rfl⟩
theorem check_nil (w : World) : Calls Try.prog 36 #[.pointer none] w fun e w' => e = .returned (.int .i64 1) ∧ w' = w := by
  go_enter Try.func36, Try.ntmps36
  go_wp2
  go_ret
  exact ⟨rfl, rfl⟩
theorem check_zero (B : Nat) (w : World) (h : w.cell? ⟨B, 0, none⟩ = some (.bool false)) : Calls Try.prog 36 #[.pointer (some ⟨B, 0, none⟩)] w fun e w' => e = .returned (.int .i64 1) ∧ w' = w := by
  go_enter Try.func36, Try.ntmps36
  go_wp2
  go_ret
  exact ⟨rfl, rfl⟩
theorem checkData_long (n₀ B : Nat) (L : List (List Sl)) (A : Option Addr) (n c : Nat) (w : World) (h : HP w n₀ B L) (hd : 255 < n) : Calls Try.prog 30 #[.pointer (some ⟨B, 0, none⟩), .slice A n c] w fun e w' => e = .returned (.int .i64 3) ∧ w' = w := by
  have H := Lib.hid (check_h n₀ B L w h)
  have t1 : (255 : Int) < (n : Int) := by omega
  clear h
  go_enter Try.func30, Try.ntmps30
  go_wp2_with (go_at_call 36; (with_reducible refine H.out.mono ?_); rintro e w1 ⟨rfl, rfl⟩)
  go_ret
  exact ⟨rfl, rfl⟩
theorem checkData_h (n₀ B : Nat) (L : List (List Sl)) (A : Option Addr) (n c : Nat) (w : World) (h : HP w n₀ B L) (hd : ¬ 255 < n) : Calls Try.prog 30 #[.pointer (some ⟨B, 0, none⟩), .slice A n c] w fun e w' => e = .returned (.int .i64 0) ∧ w' = w := by
  have H := Lib.hid (check_h n₀ B L w h)
  have t1 : ¬ (255 : Int) < (n : Int) := by omega
  clear h
  go_enter Try.func30, Try.ntmps30
  go_wp2_with (go_at_call 36; (with_reducible refine H.out.mono ?_); rintro e w1 ⟨rfl, rfl⟩)
  go_ret
  exact ⟨rfl, rfl⟩
theorem find_in (n₀ B : Nat) (L : List (List Sl)) (k : Nat) (s : Int) (w : World) (h : HP w n₀ B L) (hk : k < L.length) : Calls Try.prog 28 #[.pointer (some ⟨B, 0, none⟩), .agg #[.int .i64 (k : Int), .int .i64 s]] w
    fun e w' => ∃ A c, e = .returned (.tuple #[.slice A 512 c, .int .i64 0]) ∧ Good w' A c (pageOf L k) ∧ Below w.heap.size w w' := by
  obtain ⟨A, n, c, ⟨h0, h1, h2⟩, hcel, hp⟩ := h.open_
  have hl := hp.len
  obtain ⟨b, o, A', c', rfl, hb, c0, hg⟩ := hp.get (k := k) (by omega)
  have hB := h.lt
  have HB0 := Lib.hid (al (Below.refl w.heap.size w) (.cells #[.int .i64 (k : Int), .int .i64 s] 31))
  have H := Lib.hid (check_h n₀ B L _ (h.below HB0.out))
  have HG := Lib.hid (hg.below HB0.out)
  have hkn : (k : Int) < (n : Int) := by omega
  have hk0 : ¬ (k : Int) < 0 := by omega
  have d1 : decide ((k : Int) < 0) = false := decide_eq_false hk0
  have d2 : decide (n ≤ k) = false := decide_eq_false (by omega)
  have x0 := fun o : Obj => ((al (Below.refl w.heap.size w) o).cell (p := ⟨B, 0, none⟩) hB).trans h0
  have x1 := fun o : Obj => ((al (Below.refl w.heap.size w) o).cell (p := ⟨B, 1, none⟩) hB).trans h1
  have x2 := fun ob : Obj => ((al (Below.refl w.heap.size w) ob).cell (p := ⟨b, o + k, none⟩) hb).trans c0
  clear h hp hg hl hcel h0 h1 h2 c0
  go_enter Try.func28, Try.ntmps28
  go_wp2_with (go_at_call 36; (with_reducible refine H.out.mono ?_); rintro e w1 ⟨rfl, rfl⟩)
  go_quiet (fail)
  go_wp2
  go_quiet (fail)
  go_wp2
  go_ret2
  exact ⟨A', c', rfl, HG.out.below (below_drewN (below_drewN (Below.refl _ _) _) _), below_drewN (below_drewN HB0.out _) _⟩
theorem find_out (n₀ B : Nat) (L : List (List Sl)) (p s : Int) (w : World) (h : HP w n₀ B L) (hk : ¬ inH L p) : Calls Try.prog 28 #[.pointer (some ⟨B, 0, none⟩), .agg #[.int .i64 p, .int .i64 s]] w
    fun e w' => e = .returned (.tuple #[.slice none 0 0, .int .i64 4]) ∧ Below w.heap.size w w' := by
  obtain ⟨A, n, c, ⟨h0, h1, h2⟩, hcel, hp⟩ := h.open_
  have hl := hp.len
  have hB := h.lt
  have HB0 := Lib.hid (al (Below.refl w.heap.size w) (.cells #[.int .i64 p, .int .i64 s] 31))
  have H := Lib.hid (check_h n₀ B L _ (h.below HB0.out))
  have x0 := fun o : Obj => ((al (Below.refl w.heap.size w) o).cell (p := ⟨B, 0, none⟩) hB).trans h0
  have x1 := fun o : Obj => ((al (Below.refl w.heap.size w) o).cell (p := ⟨B, 1, none⟩) hB).trans h1
  unfold inH at hk
  by_cases hp0 : p < 0
  · have d1 : decide (p < 0) = true := decide_eq_true hp0
    clear h hp hl hcel h0 h1 h2
    go_enter Try.func28, Try.ntmps28
    go_wp2_with (go_at_call 36; (with_reducible refine H.out.mono ?_); rintro e w1 ⟨rfl, rfl⟩)
    go_quiet (fail)
    go_wp2
    go_ret2
    exact ⟨rfl, below_drewN HB0.out _⟩
  · obtain ⟨k, rfl⟩ := Int.eq_ofNat_of_zero_le (show (0 : Int) ≤ p by omega)
    have hkn : ¬ (k : Int) < (n : Int) := by rw [Int.toNat_natCast] at hk; omega
    have d1 : decide ((k : Int) < 0) = false := decide_eq_false hp0
    have d2 : decide (n ≤ k) = true := decide_eq_true (by omega)
    clear h hp hl hcel h0 h1 h2
    go_enter Try.func28, Try.ntmps28
    go_wp2_with (go_at_call 36; (with_reducible refine H.out.mono ?_); rintro e w1 ⟨rfl, rfl⟩)
    go_quiet (fail)
    go_wp2
    go_ret2
    exact ⟨rfl, below_drewN HB0.out _⟩
end Go.Proofs.Ythcilmlaoddckaa.Pg
/- Data laid into pages that become the heap's. -/
namespace Go.Proofs.Ythcilmlaoddckaa.Pg
open Go.RowKit Go.Proofs.Ythcilmlaoddckaa.Mem Go.Proofs.Ythcilmlaoddckaa.Right
set_option linter.unusedVariables false

/-- What a call that may turn a heap leaves: its answer, the heap then. -/
def HM (w : World) (n₀ B : Nat) (L : List (List Sl)) (r : Value) (e : Ending) (w' : World) : Prop := e = .returned r ∧ HP w' n₀ B L ∧ Frm [55] n₀ w w'
theorem HP.size {w : World} {n₀ B : Nat} {L : List (List Sl)} (h : HP w n₀ B L) : n₀ ≤ w.heap.size := Nat.le_of_lt (Nat.lt_of_le_of_lt h.base h.lt)
/-- Where a call ends: its result's cell, which it made, written. -/
theorem HM.fin {w w1 : World} {n₀ B : Nat} {L : List (List Sl)} {r : Value} {a b x y : Int} {g : Nat} (h : HP w1 n₀ B L) (hf : Frm [55] n₀ w w1) (hg : w.heap.size ≤ g) (hn : n₀ ≤ w.heap.size) (hz : Cel w1 g 31 #[.int .i64 a, .int .i64 b]) :
    HM w n₀ B L r (.returned r) ((w1.setCell ⟨g, 0, none⟩ (.int .i64 x)).setCell ⟨g, 1, none⟩ (.int .i64 y)) :=
  ⟨rfl, h.frm (Frm.two (T := [31]) (n₀ := n₀) hz (by decide) (Nat.le_trans hn hg)) (by decide) (by decide), (hf.fresh hg (Nat.le_trans hn hg) _).fresh hg (Nat.le_trans hn hg) _⟩
/-- Where a call ends that has turned no heap. -/
theorem HM.same {w w1 : World} {n₀ B g : Nat} {L : List (List Sl)} {r : Value} {a b x y : Int} (h : HP w n₀ B L) (hb : Below w.heap.size w w1) (hg : w.heap.size ≤ g) (hz : Cel w1 g 31 #[.int .i64 a, .int .i64 b]) :
    HM w n₀ B L r (.returned r) ((w1.setCell ⟨g, 0, none⟩ (.int .i64 x)).setCell ⟨g, 1, none⟩ (.int .i64 y)) :=
  HM.fin (h.below hb) (Frm.of hb h.size) hg h.size hz
set_option maxHeartbeats 1000000 in
theorem lay_h (n₀ B : Nat) (L0 : List (List Sl)) (A A2 : Option Addr) (n c m c2 : Nat) (L : List (List Sl)) (d : List UInt8) (w : World) (h0 : HP w n₀ B L0) (h : PL w A n c L) (hO : HOk L) (hd : Bs w A2 m c2 d) (hm : d.length ≤ 255) (x : Option (List (List Sl))) (p s y : Int) (hx : putH L d = (x, p, s, y)) :
    Calls Try.prog 31 #[.pointer (some ⟨B, 0, none⟩), .slice A n c, .slice A2 m c2] w (HM w n₀ B (x.getD L0) (.tuple #[.agg #[.int .i64 p, .int .i64 s], .int .i64 y])) := by
  have HB0 := Lib.hid (al (Below.refl w.heap.size w) (.cells #[.int .i64 0, .int .i64 0] 31))
  have HZ0 := Lib.hid (Cel.new w 31 #[.int .i64 0, .int .i64 0] rfl)
  have H0 := Lib.hid h0
  have H := Lib.hid (putp_any A A2 n c m c2 L d _ (h.below HB0.out) hO (hd.below HB0.out) hm x p s y hx)
  have HX := Lib.hid hx
  have HO := Lib.hid hO
  have HMD := Lib.hid hm
  clear h0 h hO hd hm hx
  cases x with
  | none =>
    have hp := putH_none HO.out.each HMD.out HX.out
    obtain ⟨rfl, rfl, rfl, _⟩ := hp
    go_enter Try.func31, Try.ntmps31
    go_upto_region 3 with (go_at_call 49; (with_reducible refine H.out.mono ?_); rintro e w1 ⟨rfl, hb1⟩; have HB1 := Lib.hid (Mem.on HB0.out hb1); have HZ1 := Lib.hid (HZ0.out.below hb1); clear hb1)
    have HB2 := Lib.hid (al HB1.out (.cells #[.int .i64 0, .int .i64 0] 31))
    have HZ2 := Lib.hid (HZ1.out.alloc (.cells #[.int .i64 0, .int .i64 0] 31))
    generalize w1.alloc (.cells #[.int .i64 0, .int .i64 0] 31) = W1 at HB2 HZ2 ⊢
    have z0 := HZ2.out.at_ 0
    have z1 := HZ2.out.at_ 1
    have f0 := HZ2.out.open_ 0
    have f1 := HZ2.out.open_ 1
    go_wp2
    refine bodyPost_ret (res_ct rfl rfl (rid_load ((HZ2.out.set 0 (.int .i64 0)).set 1 (.int .i64 0)))) rfl ?_
    exact HM.same H0.out HB2.out (Nat.le_refl _) HZ2.out
  | some L' =>
    have hp := putH_ok HO.out HMD.out HX.out
    obtain ⟨hok, rfl, _⟩ := hp
    have hBw := H0.out.lt
    have HK := Lib.hid hok
    clear hok
    go_enter Try.func31, Try.ntmps31
    go_upto_region 4 with (go_at_call 49; (with_reducible refine H.out.mono ?_); rintro e w1 ⟨A1, c1, rfl, hp1, hb1⟩; have HB1 := Lib.hid (Mem.on HB0.out hb1); have HP1 := Lib.hid hp1; have HZ1 := Lib.hid (HZ0.out.below hb1); have HT1 := Lib.hid (Cel.new w1 31 #[.int .i64 p, .int .i64 s] rfl); clear hb1 hp1)
    have HB2 := Lib.hid (al HB1.out (.cells #[.int .i64 p, .int .i64 s] 31))
    have HZ2 := Lib.hid (HZ1.out.alloc (.cells #[.int .i64 p, .int .i64 s] 31))
    have HP2 := Lib.hid (HP1.out.below (al (Below.refl _ _) (.cells #[.int .i64 p, .int .i64 s] 31)))
    have hTw : w.heap.size < w1.heap.size := blk_lt HZ1.out
    have H2 := Lib.hid (H0.out.below HB2.out)
    generalize w1.alloc (.cells #[.int .i64 p, .int .i64 s] 31) = W1 at HB2 HZ2 HT1 HP2 H2 ⊢
    generalize w1.heap.size = T at hTw HT1 ⊢
    obtain ⟨AH, nH, cH, ⟨y0, y1, g1⟩, hcel, _⟩ := H2.out.open_
    have z0 := HZ2.out.at_ 0
    have z1 := HZ2.out.at_ 1
    have f0 := HZ2.out.open_ 0
    have f1 := HZ2.out.open_ 1
    have t0 := HT1.out.at_ 0
    have t1 := HT1.out.at_ 1
    have n1 : B ≠ T := by omega
    have n2 : T ≠ B := by omega
    have n3 : B ≠ w.heap.size := by omega
    have n4 : w.heap.size ≠ B := by omega
    have HE := Lib.hid hcel
    clear hcel
    go_wp2
    have q := ((HZ2.out.other n3 1 (.slice A1 L'.length c1)).set 0 (.int .i64 p)).set 1 (.int .i64 s)
    refine bodyPost_ret (res_ct rfl rfl (rid_load q)) rfl ?_
    have hturn := H2.out.turn HP2.out HK.out
    refine ⟨rfl, hturn.1.frm (Frm.two (T := [31]) (n₀ := n₀) (HZ2.out.other n3 1 (.slice A1 L'.length c1)) (by decide) H0.out.size) (by decide) (by decide), ?_⟩
    exact (((Frm.of HB2.out H0.out.size).trans hturn.2).fresh (Nat.le_refl _) H0.out.size _).fresh (Nat.le_refl _) H0.out.size _
end Go.Proofs.Ythcilmlaoddckaa.Pg
/- The heap's Put, Get, Pages and Drop. -/
namespace Go.Proofs.Ythcilmlaoddckaa.Pg
open Go.RowKit Go.Proofs.Ythcilmlaoddckaa.Mem Go.Proofs.Ythcilmlaoddckaa.Right
set_option linter.unusedVariables false

set_option maxHeartbeats 1000000 in
theorem put_h (n₀ B : Nat) (L : List (List Sl)) (A2 : Option Addr) (m c2 : Nat) (d : List UInt8) (w : World) (h : HP w n₀ B L) (hd : Bs w A2 m c2 d) (x : Option (List (List Sl))) (p s y : Int) (hx : putD L d = (x, p, s, y)) :
    Calls Try.prog 18 #[.pointer (some ⟨B, 0, none⟩), .slice A2 m c2] w (HM w n₀ B (x.getD L) (.tuple #[.agg #[.int .i64 p, .int .i64 s], .int .i64 y])) := by
  have HB0 := Lib.hid (al (Below.refl w.heap.size w) (.cells #[.int .i64 0, .int .i64 0] 31))
  have HZ0 := Lib.hid (Cel.new w 31 #[.int .i64 0, .int .i64 0] rfl)
  have H := Lib.hid h
  have H0 := Lib.hid (h.below HB0.out)
  have hdm : d.length = m := hd.2.1
  unfold putD at hx
  by_cases h5 : 255 < d.length
  · rw [if_pos h5] at hx
    cases hx
    have HC := Lib.hid (checkData_long n₀ B L A2 m c2 _ H0.out (by omega))
    have z0 := HZ0.out.at_ 0
    have z1 := HZ0.out.at_ 1
    have f0 := HZ0.out.open_ 0
    have f1 := HZ0.out.open_ 1
    have HS := HZ0.out
    clear h hd
    go_enter Try.func18, Try.ntmps18
    go_upto_region 3 with (go_at_call 30; (with_reducible refine HC.out.mono ?_); rintro e w1 ⟨rfl, rfl⟩)
    generalize w.alloc (.cells #[.int .i64 0, .int .i64 0] 31) = W1 at HB0 HS z0 z1 f0 f1 ⊢
    go_wp2
    refine bodyPost_ret (res_ct rfl rfl (rid_load ((HS.set 0 (.int .i64 0)).set 1 (.int .i64 0)))) rfl ?_
    exact HM.same H.out HB0.out (Nat.le_refl _) HS
  · rw [if_neg h5] at hx
    have HC := Lib.hid (checkData_h n₀ B L A2 m c2 _ H0.out (by omega))
    obtain ⟨A, n, c, ⟨y0, y1, g1⟩, hcel, hp⟩ := H0.out.open_
    have HL := Lib.hid (lay_h n₀ B L A A2 n c m c2 L d _ H0.out hp h.ok (hd.below HB0.out) (by omega) x p s y hx)
    clear h hd hp hcel hx
    go_enter Try.func18, Try.ntmps18
    go_wp2_with first | (go_at_call 30; (with_reducible refine HC.out.mono ?_); rintro e w1 ⟨rfl, rfl⟩) | (go_at_call 31; (with_reducible refine HL.out.mono ?_); rintro e w1 ⟨rfl, hp1, hf1⟩; have HP1 := Lib.hid hp1; have HF1 := Lib.hid hf1; have HZ1 := Lib.hid (hf1.cel (by decide) HZ0.out); have z0 := HZ1.out.at_ 0; have z1 := HZ1.out.at_ 1; have f0 := HZ1.out.open_ 0; have f1 := HZ1.out.open_ 1; clear hp1 hf1)
    refine bodyPost_ret (res_ct rfl rfl (rid_load ((HZ1.out.set 0 (.int .i64 p)).set 1 (.int .i64 s)))) rfl ?_
    exact HM.fin HP1.out ((Frm.of HB0.out H.out.size).trans HF1.out) (Nat.le_refl _) H.out.size HZ1.out
set_option maxHeartbeats 1000000 in
theorem get_h (n₀ B : Nat) (L : List (List Sl)) (p s : Int) (w : World) (h : HP w n₀ B L) (x : Option (List UInt8)) (y : Int) (hx : getH L p s = (x, y)) :
    Calls Try.prog 16 #[.pointer (some ⟨B, 0, none⟩), .agg #[.int .i64 p, .int .i64 s]] w (GotB w x y) := by
  have HB0 := Lib.hid (al (Below.refl w.heap.size w) (.cells #[.int .i64 p, .int .i64 s] 31))
  have HZ0 := Lib.hid (Cel.new w 31 #[.int .i64 p, .int .i64 s] rfl)
  have H0 := Lib.hid (h.below HB0.out)
  unfold getH at hx
  by_cases hin : inH L p
  · rw [if_pos hin] at hx
    obtain ⟨h1, h2⟩ := hin
    obtain ⟨k, rfl⟩ := Int.eq_ofNat_of_zero_le h1
    rw [Int.toNat_natCast] at hx h2
    have HC := Lib.hid (find_in n₀ B L k s _ H0.out h2)
    have HX := Lib.hid hx
    clear h hx
    go_enter Try.func16, Try.ntmps16
    cases x with
    | none =>
      go_wp2_with first | (go_at_call 28; (with_reducible refine HC.out.mono ?_); rintro e w1 ⟨A1, c1, rfl, hg1, hb1⟩; have HG1 := Lib.hid hg1; have HB1 := Lib.hid (Mem.on HB0.out hb1); have z1 := (HZ0.out.below hb1).at_ 1; clear hg1 hb1) | (go_at_call 29; (with_reducible refine (get_got A1 c1 (pageOf L k) s _ HG1.out none y HX.out).mono ?_); rintro e w2 ⟨rfl, hb2⟩; have HB2 := Lib.hid (Mem.on HB1.out hb2); clear hb2)
      go_ret2
      exact ⟨rfl, HB2.out⟩
    | some l =>
      have hy : y = 0 := by
        have hx2 := HX.out
        unfold getV at hx2
        split at hx2
        · split at hx2
          · cases hx2; rfl
          · cases hx2
        · cases hx2
      subst hy
      go_wp2_with first | (go_at_call 28; (with_reducible refine HC.out.mono ?_); rintro e w1 ⟨A1, c1, rfl, hg1, hb1⟩; have HG1 := Lib.hid hg1; have HB1 := Lib.hid (Mem.on HB0.out hb1); have z1 := (HZ0.out.below hb1).at_ 1; clear hg1 hb1) | (go_at_call 29; (with_reducible refine (get_got A1 c1 (pageOf L k) s _ HG1.out (some l) 0 HX.out).mono ?_); rintro e w2 ⟨A3, c3, rfl, hs3, hb2⟩; have HS3 := Lib.hid hs3; have HB2 := Lib.hid (Mem.on HB1.out hb2); clear hb2 hs3)
      go_ret2
      exact ⟨A3, c3, rfl, HS3.out, HB2.out⟩
  · rw [if_neg hin] at hx
    cases hx
    have HC := Lib.hid (find_out n₀ B L p s _ H0.out hin)
    clear h
    go_enter Try.func16, Try.ntmps16
    go_wp2_with (go_at_call 28; (with_reducible refine HC.out.mono ?_); rintro e w1 ⟨rfl, hb1⟩; have HB1 := Lib.hid (Mem.on HB0.out hb1); clear hb1)
    go_ret2
    exact ⟨rfl, HB1.out⟩
theorem pages_h (n₀ B : Nat) (L : List (List Sl)) (w : World) (h : HP w n₀ B L) :
    Calls Try.prog 21 #[.pointer (some ⟨B, 0, none⟩)] w fun e w' => ∃ A c, e = .returned (.slice A L.length c) ∧ PL w' A L.length c L ∧ Below w.heap.size w w' := by
  have HC := Lib.hid (check_h n₀ B L w h)
  obtain ⟨A, n, c, ⟨y0, y1, g1⟩, hcel, hp⟩ := h.open_
  have hl := hp.len
  subst hl
  have HL := Lib.hid (clones_any A L.length c L w hp (by have := h.ok.few; omega))
  clear h hp hcel
  go_enter Try.func21, Try.ntmps21
  go_wp2_with first | (go_at_call 36; (with_reducible refine HC.out.mono ?_); rintro e w1 ⟨rfl, rfl⟩) | (go_at_call 37; (with_reducible refine HL.out.mono ?_); rintro e w1 ⟨A1, c1, rfl, hp1, hb1⟩; have HP1 := Lib.hid hp1; have HB1 := Lib.hid hb1; clear hp1 hb1)
  go_ret
  exact ⟨A1, c1, rfl, HP1.out, HB1.out⟩
theorem dropP_none {L : List (List Sl)} {k : Nat} {s y : Int} (hx : dropP L k s = (none, y)) : y = 4 := by
  unfold dropP at hx
  obtain ⟨px, py, hp⟩ : ∃ px py, dropV (pageOf L k) s = (px, py) := ⟨_, _, rfl⟩
  rw [hp] at hx
  cases px with
  | none =>
    cases hx
    exact dropV_no hp
  | some S => cases hx
set_option maxRecDepth 100000 in
set_option maxHeartbeats 1000000 in
theorem drop_h (n₀ B : Nat) (L : List (List Sl)) (p s : Int) (w : World) (h : HP w n₀ B L) (x : Option (List (List Sl))) (y : Int) (hx : dropH L p s = (x, y)) :
    Calls Try.prog 20 #[.pointer (some ⟨B, 0, none⟩), .agg #[.int .i64 p, .int .i64 s]] w (HM w n₀ B (x.getD L) (.int .i64 y)) := by
  have HB0 := Lib.hid (al (Below.refl w.heap.size w) (.cells #[.int .i64 p, .int .i64 s] 31))
  have HZ0 := Lib.hid (Cel.new w 31 #[.int .i64 p, .int .i64 s] rfl)
  have H := Lib.hid h
  have H0 := Lib.hid (h.below HB0.out)
  unfold dropH at hx
  by_cases hin : inH L p
  · rw [if_pos hin] at hx
    obtain ⟨h1, h2⟩ := hin
    obtain ⟨k, rfl⟩ := Int.eq_ofNat_of_zero_le h1
    rw [Int.toNat_natCast] at hx h2
    have HC := Lib.hid (find_in n₀ B L k s _ H0.out h2)
    have HX := Lib.hid hx
    clear h hx
    go_enter Try.func20, Try.ntmps20
    go_upto_region 4 with (go_at_call 28; (with_reducible refine HC.out.mono ?_); rintro e w1 ⟨A1, c1, rfl, _, hb1⟩; have HB1 := Lib.hid (Mem.on HB0.out hb1); have HZ1 := Lib.hid (HZ0.out.below hb1); have H1 := Lib.hid (H0.out.below hb1); clear hb1)
    obtain ⟨A, n, c, ⟨y0, y1, g1⟩, hcel, hp⟩ := H1.out.open_
    have hl := hp.len
    have z0 := HZ1.out.at_ 0
    have z1 := HZ1.out.at_ 1
    have HD := Lib.hid (dropp_any A n c k s L _ (hp.below (Below.refl _ _).drew) H.out.ok (by omega) x y HX.out)
    have HK := Lib.hid (show ∀ W, Below w1.drew.heap.size w1.drew W → W.cell? ⟨w.heap.size, 0, none⟩ = some (.int .i64 (k : Int)) ∧ W.cell? ⟨w.heap.size, 1, none⟩ = some (.int .i64 s) ∧ W.cell? ⟨B, 1, none⟩ = some (.slice A n c) from fun W hW => by
      have hz := HZ1.out.below (W' := W) (undraw hW)
      have hc := hcel.below (W' := W) (undraw hW)
      exact ⟨hz.at_ 0, hz.at_ 1, hc.at_ 1⟩)
    clear hcel hp hl
    cases x with
    | none =>
      have hy := dropP_none HX.out
      subst hy
      go_region_held3 (fun W => W.cell? ⟨w.heap.size, 0, none⟩ = some (.int .i64 (k : Int)) ∧ W.cell? ⟨w.heap.size, 1, none⟩ = some (.int .i64 s) ∧ W.cell? ⟨B, 1, none⟩ = some (.slice A n c))
        (first | go_keep | exact ⟨q0, q1, q2⟩)
        (first | (go_simp; go_at_call 35; (with_reducible refine HD.out.mono ?_); rintro e w2 ⟨rfl, hb2⟩; have HB2 := Lib.hid (Mem.on HB1.out (undraw hb2)); obtain ⟨q0, q1, q2⟩ := HK.out w2 hb2; clear hb2))
      go_wp2
      go_ret
      exact ⟨rfl, H.out.below HB2.out, Frm.of HB2.out H.out.size⟩
    | some L' =>
      obtain ⟨hok, rfl⟩ := dropP_ok H.out.ok HX.out
      have HKO := Lib.hid hok
      clear hok
      go_region_held3 (fun W => W.cell? ⟨w.heap.size, 0, none⟩ = some (.int .i64 (k : Int)) ∧ W.cell? ⟨w.heap.size, 1, none⟩ = some (.int .i64 s) ∧ W.cell? ⟨B, 1, none⟩ = some (.slice A n c))
        (first | go_keep | exact ⟨q0, q1, q2⟩)
        (first | (go_simp; go_at_call 35; (with_reducible refine HD.out.mono ?_); rintro e w2 ⟨A2, c2, rfl, hp2, hb2⟩; have HP2 := Lib.hid hp2; have H2 := Lib.hid (H1.out.below (undraw hb2)); have HB2 := Lib.hid (Mem.on HB1.out (undraw hb2)); obtain ⟨q0, q1, q2⟩ := HK.out w2 hb2; clear hb2 hp2))
      obtain ⟨AH, nH, cH, ⟨x0, x1, gg1⟩, _, _⟩ := H2.out.open_
      clear q2
      go_wp2
      go_ret
      have hturn := H2.out.turn HP2.out HKO.out
      exact ⟨rfl, hturn.1, (Frm.of HB2.out H.out.size).trans hturn.2⟩
  · rw [if_neg hin] at hx
    cases hx
    have HC := Lib.hid (find_out n₀ B L p s _ H0.out hin)
    clear h
    go_enter Try.func20, Try.ntmps20
    go_wp2_with (go_at_call 28; (with_reducible refine HC.out.mono ?_); rintro e w1 ⟨rfl, hb1⟩; have HB1 := Lib.hid (Mem.on HB0.out hb1); clear hb1)
    go_ret
    exact ⟨rfl, H.out.below HB1.out, Frm.of HB1.out H.out.size⟩
end Go.Proofs.Ythcilmlaoddckaa.Pg
/- The heap's move and Set. -/
namespace Go.Proofs.Ythcilmlaoddckaa.Pg
open Go.RowKit Go.Proofs.Ythcilmlaoddckaa.Mem Go.Proofs.Ythcilmlaoddckaa.Right
set_option linter.unusedVariables false

set_option maxRecDepth 100000 in
set_option maxHeartbeats 1000000 in
theorem move_h (n₀ B : Nat) (L : List (List Sl)) (k : Nat) (s : Int) (A2 : Option Addr) (m c2 : Nat) (d : List UInt8) (w : World) (h : HP w n₀ B L) (hk : k < L.length) (hd : Bs w A2 m c2 d) (hm : d.length ≤ 255) (x : Option (List (List Sl))) (p q y : Int) (hx : moveK L k s d = (x, p, q, y)) :
    Calls Try.prog 34 #[.pointer (some ⟨B, 0, none⟩), .agg #[.int .i64 (k : Int), .int .i64 s], .slice A2 m c2] w (HM w n₀ B (x.getD L) (.tuple #[.agg #[.int .i64 p, .int .i64 q], .int .i64 y])) := by
  obtain ⟨W, hW⟩ : ∃ W, (w.alloc (.cells #[.int .i64 (k : Int), .int .i64 s] 31)).alloc (.cells #[.int .i64 0, .int .i64 0] 31) = W := ⟨_, rfl⟩
  have hB0 : Below w.heap.size w W := by rw [← hW]; exact al (al (Below.refl _ _) _) _
  have hA0 : Cel W w.heap.size 31 #[.int .i64 (k : Int), .int .i64 s] := by rw [← hW]; exact (Cel.new w _ _ rfl).alloc _
  have hZ0 : Cel W (w.heap.size + 1) 31 #[.int .i64 0, .int .i64 0] := by rw [← hW]; exact Cel.new (w.alloc _) _ _ (by simp)
  have HB0 := Lib.hid hB0
  have HA0 := Lib.hid hA0
  have HZ0 := Lib.hid hZ0
  have H := Lib.hid h
  have H0 := Lib.hid (h.below hB0)
  have HD0 := Lib.hid (hd.below hB0)
  have HX := Lib.hid hx
  have HMD := Lib.hid hm
  obtain ⟨A, n, c, ⟨y0, y1, g1⟩, hcel, hp⟩ := H0.out.open_
  have hl := hp.len
  have z0 := HA0.out.at_ 0
  have z1 := HA0.out.at_ 1
  obtain ⟨dx, dy, hdx⟩ : ∃ dx dy, dropP L k s = (dx, dy) := ⟨_, _, rfl⟩
  have HDX := Lib.hid hdx
  have HD := Lib.hid (dropp_any A n c k s L _ (hp.below (Below.refl _ _).drew) H.out.ok (by omega) dx dy hdx)
  have HK := Lib.hid (show ∀ W', Below W.drew.heap.size W.drew W' → W'.cell? ⟨w.heap.size, 0, none⟩ = some (.int .i64 (k : Int)) ∧ W'.cell? ⟨w.heap.size, 1, none⟩ = some (.int .i64 s) ∧ W'.cell? ⟨B, 1, none⟩ = some (.slice A n c) from fun W' hW' => by
    have hz := HA0.out.below (W' := W') (undraw hW')
    have hc := hcel.below (W' := W') (undraw hW')
    exact ⟨hz.at_ 0, hz.at_ 1, hc.at_ 1⟩)
  clear h hd hm hx hdx hB0 hA0 hZ0 hcel hp hl
  cases dx with
  | none =>
    have hy := dropP_none HDX.out
    subst hy
    have hX := HX.out
    unfold moveK at hX
    rw [HDX.out] at hX
    injection hX with e1 hX
    injection hX with e2 hX
    injection hX with e3 e4
    subst e1 e2 e3 e4
    go_enter Try.func34, Try.ntmps34
    go_upto_region 1 with fail
    clear hW
    go_region_held3 (fun W => W.cell? ⟨w.heap.size, 0, none⟩ = some (.int .i64 (k : Int)) ∧ W.cell? ⟨w.heap.size, 1, none⟩ = some (.int .i64 s) ∧ W.cell? ⟨B, 1, none⟩ = some (.slice A n c))
      (first | go_keep | exact ⟨q0, q1, q2⟩)
      (first | (go_simp; go_at_call 35; (with_reducible refine HD.out.mono ?_); rintro e w2 ⟨rfl, hb2⟩; have HB2 := Lib.hid (Mem.on HB0.out (undraw hb2)); have HZ2 := Lib.hid (HZ0.out.below (undraw hb2)); obtain ⟨q0, q1, q2⟩ := HK.out w2 hb2; clear hb2))
    have f0 := HZ2.out.open_ 0
    have f1 := HZ2.out.open_ 1
    have v0 := HZ2.out.at_ 0
    have v1 := HZ2.out.at_ 1
    go_wp2
    refine bodyPost_ret (res_ct rfl rfl (rid_load ((HZ2.out.set 0 (.int .i64 0)).set 1 (.int .i64 0)))) rfl ?_
    exact HM.same H.out HB2.out (Nat.le_succ _) HZ2.out
  | some L1 =>
    obtain ⟨hok, rfl⟩ := dropP_ok H.out.ok HDX.out
    have HKO := Lib.hid hok
    have hX := HX.out
    unfold moveK at hX
    rw [HDX.out] at hX
    have HX1 : Hid (putH L1 d = (x, p, q, y)) := Lib.hid hX
    clear hok hX
    go_enter Try.func34, Try.ntmps34
    go_upto_region 1 with fail
    clear hW
    go_region_held3 (fun W => W.cell? ⟨w.heap.size, 0, none⟩ = some (.int .i64 (k : Int)) ∧ W.cell? ⟨w.heap.size, 1, none⟩ = some (.int .i64 s) ∧ W.cell? ⟨B, 1, none⟩ = some (.slice A n c))
      (first | go_keep | exact ⟨q0, q1, q2⟩)
      (first | (go_simp; go_at_call 35; (with_reducible refine HD.out.mono ?_); rintro e w2 ⟨A3, c3, rfl, hp2, hb2⟩; have HP2 := Lib.hid hp2; have H2 := Lib.hid (H0.out.below (undraw hb2)); have HD2 := Lib.hid (HD0.out.below (undraw hb2)); have HB2 := Lib.hid (Mem.on HB0.out (undraw hb2)); have HZ2 := Lib.hid (HZ0.out.below (undraw hb2)); obtain ⟨q0, q1, q2⟩ := HK.out w2 hb2; clear hb2 hp2))
    clear q0 q1 q2 y0 y1 g1 z0 z1
    go_wp2_with (go_at_call 31; (with_reducible refine (lay_h n₀ B L A3 A2 L1.length c3 m c2 L1 d _ H2.out HP2.out HKO.out HD2.out HMD.out x p q y HX1.out).mono ?_); rintro e w3 ⟨rfl, hp3, hf3⟩; have HP3 := Lib.hid hp3; have HF3 := Lib.hid hf3; have HZ3 := Lib.hid (hf3.cel (by decide) HZ2.out); have v0 := HZ3.out.at_ 0; have v1 := HZ3.out.at_ 1; have f0 := HZ3.out.open_ 0; have f1 := HZ3.out.open_ 1; clear hp3 hf3)
    refine bodyPost_ret (res_ct rfl rfl (rid_load ((HZ3.out.set 0 (.int .i64 p)).set 1 (.int .i64 q)))) rfl ?_
    exact HM.fin HP3.out ((Frm.of HB2.out H.out.size).trans HF3.out) (Nat.le_succ _) H.out.size HZ3.out
end Go.Proofs.Ythcilmlaoddckaa.Pg
