/- The law that the heap and the document's play the same: the walk. -/
import Derived.Test.YthcilmlaoddckaaHeapActs
import Derived.Test.YthcilmlaoddckaaHeapWorks
namespace Go.Proofs.Ythcilmlaoddckaa.Pg
open Go.RowKit Go.Proofs.Ythcilmlaoddckaa.Mem Go.Proofs.Ythcilmlaoddckaa.Right
set_option linter.unusedVariables false

/-- Both heaps, of the same pages, in a law's own memory. -/
structure Duo (w : World) (B R : Nat) (L : List (List Sl)) (wr : World) : Prop where
  h : HP wr w.heap.size B L
  r : RP wr w.heap.size R L
  b : Below w.heap.size w wr
theorem Duo.below {w : World} {B R : Nat} {L : List (List Sl)} {wr w' : World} (h : Duo w B R L wr) (hb : Below wr.heap.size wr w') : Duo w B R L w' := ⟨h.h.below hb, h.r.below hb, Mem.on h.b hb⟩
theorem Duo.made {w w1 : World} {B : Nat} (hp : HP w1 w.heap.size B []) (hb : Below w.heap.size w w1) : Duo w B w1.heap.size [] (w1.alloc (.cells #[.slice none 0 0] 28)) :=
  ⟨hp.below (al (Below.refl _ _) _), ⟨hb.size, ⟨by simp, by decide⟩, _, Cel.new w1 _ _ rfl, Arr.nil _ _⟩, al hb _⟩
theorem Duo.done {w : World} {B R : Nat} {L : List (List Sl)} {wr : World} (h : Duo w B R L wr) (a : Ah) (ha : AhOk w a) :
    Calls Try.prog 10 #[.pointer (some ⟨B, 0, none⟩), .pointer (some ⟨R, 0, none⟩), .agg #[.int .i64 a.d, .bool a.o, .int .i64 a.p, .int .i64 a.s, .slice a.A a.n a.c]] wr fun e w' => e = .returned (.bool true) ∧
      Duo w B R (stepH L a.d (placeV L a.o a.p a.s).1 (placeV L a.o a.p a.s).2 a.l) w' :=
  (done_act w.heap.size B R L a.d a.o a.p a.s a.A a.n a.c a.l wr h.h h.r ((ha.below h.b).1) ha.2).mono fun e w' ⟨e1, h1, h2, h3⟩ => ⟨e1, h1, h2, h.b.trans h3.1⟩
/-- The cells of the act that is looked at. -/
def Five (W : World) (b i : Nat) (a : Ah) : Prop := W.cell? ⟨b, i, none⟩ = some (.int .i64 a.d) ∧ W.cell? ⟨b, i + 1, none⟩ = some (.bool a.o) ∧ W.cell? ⟨b, i + 2, none⟩ = some (.int .i64 a.p) ∧ W.cell? ⟨b, i + 3, none⟩ = some (.int .i64 a.s) ∧ W.cell? ⟨b, i + 4, none⟩ = some (.slice a.A a.n a.c)
theorem Five.below {w W : World} {b i : Nat} {a : Ah} (h : Five w b i a) (hlt : b < w.heap.size) (hb : Below w.heap.size w W) : Five W b i a :=
  ⟨(hb.cell (p := ⟨b, _, none⟩) hlt).trans h.1, (hb.cell (p := ⟨b, _, none⟩) hlt).trans h.2.1, (hb.cell (p := ⟨b, _, none⟩) hlt).trans h.2.2.1, (hb.cell (p := ⟨b, _, none⟩) hlt).trans h.2.2.2.1, (hb.cell (p := ⟨b, _, none⟩) hlt).trans h.2.2.2.2⟩
theorem long_a (a : Ah) (x : Bool) (hx : decide (400 < (a.n : Int)) = x) (w : World) :
    Calls Try.prog 8 #[.agg #[.int .i64 a.d, .bool a.o, .int .i64 a.p, .int .i64 a.s, .slice a.A a.n a.c]] w fun e w' => e = .returned (.bool x) ∧ Below w.heap.size w w' := long_h a.d a.o a.p a.s a.A a.n a.c x hx w
theorem Duo.len {w : World} {B R : Nat} {L : List (List Sl)} {wr : World} (h : Duo w B R L wr) : Calls Try.prog 11 #[.pointer (some ⟨B, 0, none⟩)] wr fun e w' => e = .returned (.int .i64 ((allH L).length : Int)) ∧ Duo w B R L w' :=
  (len_h _ B L wr h.h).mono fun e w' ⟨e1, hb⟩ => ⟨e1, h.below hb⟩
theorem Duo.all {w : World} {B R : Nat} {L : List (List Sl)} {wr : World} (h : Duo w B R L wr) : Calls Try.prog 12 #[.pointer (some ⟨R, 0, none⟩)] wr fun e w' => ∃ A c, e = .returned (.slice A (allH L).length c) ∧ Duo w B R L w' :=
  (all_r _ R L wr h.r).mono fun e w' ⟨A, c, e1, _, hb⟩ => ⟨A, c, e1, h.below hb⟩
theorem Duo.like {w : World} {B R : Nat} {L : List (List Sl)} {wr : World} (h : Duo w B R L wr) : Calls Try.prog 13 #[.pointer (some ⟨B, 0, none⟩), .pointer (some ⟨R, 0, none⟩)] wr fun e w' => e = .returned (.bool true) ∧ Duo w B R L w' :=
  (like_h _ _ B R L wr h.h h.r).mono fun e w' ⟨e1, hb⟩ => ⟨e1, h.below hb⟩
/-- The example, wherever a law asks for it. -/
theorem works_on {w wr : World} (h : Below w.heap.size w wr) : Calls Try.prog 9 #[] wr fun e w' => e = .returned (.bool true) ∧ Below w.heap.size w w' :=
  (works_h wr).mono fun e w' ⟨e1, hb⟩ => ⟨e1, Mem.on h hb⟩
set_option maxRecDepth 100000 in
set_option maxHeartbeats 4000000 in
theorem walk_plays (P : Option Addr) (n c : Nat) (acs : List Ah) (w : World) (hn : acs.length = n) (hn64 : n ≤ 9223372036854775807) (h : ActsH w P acs) :
    Calls Try.prog 3 #[.slice P n c] w fun e w' => e = .returned (.bool true) ∧ Below w.heap.size w w' := by
  have H := Lib.hid h
  have HN := Lib.hid hn
  clear h hn
  go_enter Try.func3, Try.ntmps3
  go_upto_region 2 with (go_at_call 7; (with_reducible refine (new_h w).mono ?_); rintro e w1 ⟨B, rfl, hp1, hb1⟩; have HD1 := Lib.hid (Duo.made hp1 hb1); clear hp1 hb1)
  go_upto_region 3 with fail
  have hD2 := HD1.out
  clear HD1
  generalize w1.alloc (.cells #[.slice none 0 0] 28) = W2 at hD2 ⊢
  generalize w1.heap.size = R at hD2 ⊢
  have HD2 := Lib.hid hD2
  clear hD2
  go_wp2
  go_loopw [5] (fun i wr => ∃ (k : Nat) (L : List (List Sl)), k ≤ n ∧ k ≤ 60 ∧ i = .int .i64 k ∧ Hid (Duo w B R L wr)) (fun i _ => n - (intOf i).toNat)
  case atStart => exact ⟨0, [], Nat.zero_le _, Nat.zero_le _, rfl, HD2⟩
  case round =>
    clear HD2
    obtain ⟨k, L, hk, hk60, rfl, HD⟩ := hrel
    by_cases hlt : k < n ∧ k < 60
    · obtain ⟨hlt, h60⟩ := hlt
      obtain ⟨b, o, a, rfl, hblt, hc, ha⟩ := H.out.one (k := k) (by rw [HN.out]; exact hlt)
      have hC : Five w b (o + k * 5) a := hc
      have HC := Lib.hid hC
      have HA := Lib.hid ha
      clear hc hC ha
      have hlt' : (k : Int) < (n : Int) := by omega
      have h60' : (k : Int) < 60 := by omega
      have d1 : decide (k < n) = true := decide_eq_true hlt
      have d2 : decide ((k : Int) < 60) = true := decide_eq_true h60'
      obtain ⟨c0, c1, c2, c3, c4⟩ := HC.out.below hblt HD.out.b
      by_cases hlong : 400 < a.n
      · have HLG := Lib.hid (decide_eq_true (show (400 : Int) < (a.n : Int) by omega))
        go_wp2_with first | (go_at_call 8; (with_reducible refine (long_a a true HLG.out _).mono ?_); rintro e w2 ⟨rfl, hb2⟩; have HB2 := Lib.hid (Mem.on HD.out.b hb2); clear hb2) | (go_at_call 9; (with_reducible refine (works_on HB2.out).mono ?_); rintro e w3 ⟨rfl, hb3⟩; have HB3 := Lib.hid hb3; clear hb3)
        go_ret
        exact ⟨rfl, HB3.out⟩
      · have HLG := Lib.hid (decide_eq_false (show ¬ (400 : Int) < (a.n : Int) by omega))
        obtain ⟨L', hL'⟩ : ∃ L', stepH L a.d (placeV L a.o a.p a.s).1 (placeV L a.o a.p a.s).2 a.l = L' := ⟨_, rfl⟩
        have HDN : Hid (∀ W, Duo w B R L W → Calls Try.prog 10 #[.pointer (some ⟨B, 0, none⟩), .pointer (some ⟨R, 0, none⟩), .agg #[.int .i64 a.d, .bool a.o, .int .i64 a.p, .int .i64 a.s, .slice a.A a.n a.c]] W fun e w' => e = .returned (.bool true) ∧ Duo w B R L' w') := Lib.hid fun W hW => by
          rw [← hL']; exact hW.done a HA.out
        obtain ⟨m, hm⟩ : ∃ m : Nat, (allH L').length = m := ⟨_, rfl⟩
        have HLN : Hid (∀ W, Duo w B R L' W → Calls Try.prog 11 #[.pointer (some ⟨B, 0, none⟩)] W fun e w' => e = .returned (.int .i64 (m : Int)) ∧ Duo w B R L' w') := Lib.hid fun W hW => by rw [← hm]; exact hW.len
        have HLL : Hid (∀ W, Duo w B R L' W → Calls Try.prog 12 #[.pointer (some ⟨R, 0, none⟩)] W fun e w' => ∃ A c, e = .returned (.slice A m c) ∧ Duo w B R L' w') := Lib.hid fun W hW => by rw [← hm]; exact hW.all
        clear hlong hL' hm
        go_wp2_with first | (go_at_call 8; (with_reducible refine (long_a a false HLG.out _).mono ?_); rintro e w2 ⟨rfl, hb2⟩; have HD2 := Lib.hid (HD.out.below hb2); clear c0 c1 c2 c3 c4; obtain ⟨c0, c1, c2, c3, c4⟩ := HC.out.below hblt HD2.out.b; clear hb2) | (go_at_call 10; (with_reducible refine (HDN.out _ HD2.out).mono ?_); rintro e w3 ⟨rfl, hd3⟩; have HD3 := Lib.hid hd3; clear hd3 c0 c1 c2 c3 c4) | (go_at_call 11; (with_reducible refine (HLN.out _ HD3.out).mono ?_); rintro e w4 ⟨rfl, hd4⟩; have HD4 := Lib.hid hd4; clear hd4) | (go_at_call 12; (with_reducible refine (HLL.out _ HD4.out).mono ?_); rintro e w5 ⟨A5, c5, rfl, hd5⟩; have HD5 := Lib.hid hd5; clear hd5)
        go_roundw
        case rel => exact ⟨k + 1, L', by omega, by omega, by go_num, HD5⟩
        case measure => simp [intOf]; omega
    · by_cases hlt0 : k < n
      · have d1 : decide (k < n) = true := decide_eq_true hlt0
        have hlt' : (k : Int) < (n : Int) := by omega
        have d2 : decide ((k : Int) < 60) = false := decide_eq_false (by omega)
        have h60' : ¬ (k : Int) < 60 := by omega
        go_wp2_with first | (go_at_call 13; (with_reducible refine HD.out.like.mono ?_); rintro e w8 ⟨rfl, hd8⟩; have HB8 := Lib.hid hd8.b; clear hd8) | (go_at_call 9; (with_reducible refine (works_on HB8.out).mono ?_); rintro e w9 ⟨rfl, hb9⟩; have HB9 := Lib.hid hb9; clear hb9)
        go_ret
        exact ⟨rfl, HB9.out⟩
      · have d1 : decide (k < n) = false := decide_eq_false hlt0
        have hlt' : ¬ (k : Int) < (n : Int) := by omega
        go_wp2_with first | (go_at_call 13; (with_reducible refine HD.out.like.mono ?_); rintro e w8 ⟨rfl, hd8⟩; have HB8 := Lib.hid hd8.b; clear hd8) | (go_at_call 9; (with_reducible refine (works_on HB8.out).mono ?_); rintro e w9 ⟨rfl, hb9⟩; have HB9 := Lib.hid hb9; clear hb9)
        go_ret
        exact ⟨rfl, HB9.out⟩
end Go.Proofs.Ythcilmlaoddckaa.Pg
