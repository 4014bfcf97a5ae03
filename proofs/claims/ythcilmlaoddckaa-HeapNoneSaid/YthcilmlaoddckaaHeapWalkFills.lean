/- The law that a heap takes what there is room for: the walk. -/
import Derived.Test.YthcilmlaoddckaaHeapWalkPlays
namespace Go.Proofs.Ythcilmlaoddckaa.Pg
open Go.RowKit Go.Proofs.Ythcilmlaoddckaa.Mem Go.Proofs.Ythcilmlaoddckaa.Right
set_option linter.unusedVariables false

theorem Duo.did {w : World} {B R : Nat} {L : List (List Sl)} {wr : World} (h : Duo w B R L wr) (a : Ah) (ha : AhOk wr a) :
    Calls Try.prog 10 #[.pointer (some ⟨B, 0, none⟩), .pointer (some ⟨R, 0, none⟩), .agg #[.int .i64 a.d, .bool a.o, .int .i64 a.p, .int .i64 a.s, .slice a.A a.n a.c]] wr fun e w' => e = .returned (.bool true) ∧
      Duo w B R (stepH L a.d (placeV L a.o a.p a.s).1 (placeV L a.o a.p a.s).2 a.l) w' :=
  (done_act w.heap.size B R L a.d a.o a.p a.s a.A a.n a.c a.l wr h.h h.r ha.1 ha.2).mono fun e w' ⟨e1, h1, h2, h3⟩ => ⟨e1, h1, h2, h.b.trans h3.1⟩
theorem Five.new (w : World) (a : Ah) : Five (w.alloc (.cells #[.int .i64 a.d, .bool a.o, .int .i64 a.p, .int .i64 a.s, .slice a.A a.n a.c] 34)) w.heap.size 0 a := by
  have h : HA _ w.heap.size a.d a.o a.p a.s a.A a.n a.c := Cel.new w 34 _ rfl
  exact h.five
set_option maxRecDepth 100000 in
set_option maxHeartbeats 4000000 in
theorem walk_fills (many : Int) (a : Ah) (w : World) (hmany : (Lit.int .u8 many).wf = true) (ha : AhOk w a) :
    Calls Try.prog 4 #[.int .u8 many, .agg #[.int .i64 a.d, .bool a.o, .int .i64 a.p, .int .i64 a.s, .slice a.A a.n a.c]] w fun e w' => e = .returned (.bool true) ∧ Below w.heap.size w w' := by
  obtain ⟨Z, hZ, hmk⟩ : ∃ Z : Array Value, Z = (List.replicate 250 (Value.int .u8 0)).toArray ∧ ∀ wx : World, (Instr.makeSlice 32 (.int .i64 250) (.int .i64 250)).run Try.prog wx = .ok (.slice (some ⟨wx.heap.size, 0, none⟩) 250 250) (wx.alloc (.cells Z 5)) := ⟨_, rfl, fun wx => by kernel_rfl⟩
  have HZS : Hid (∀ wx : World, Bs (wx.alloc (.cells Z 5)) (some ⟨wx.heap.size, 0, none⟩) 250 250 (zs 250)) := Lib.hid fun wx => zeros_new wx 250 (by decide) Z hZ
  obtain ⟨z, hz⟩ : ∃ z, zs 250 = z := ⟨_, rfl⟩
  rw [hz] at HZS
  clear hZ hz
  have hm0 : 0 ≤ many ∧ many ≤ 255 := Go.bounds_u8 hmany
  obtain ⟨W, hW⟩ : ∃ W, w.alloc (.cells #[.int .i64 a.d, .bool a.o, .int .i64 a.p, .int .i64 a.s, .slice a.A a.n a.c] 34) = W := ⟨_, rfl⟩
  have HB0 := Lib.hid (show Below w.heap.size w W by rw [← hW]; exact al (Below.refl _ _) _)
  have HC0 := Lib.hid (show Five W w.heap.size 0 a by rw [← hW]; exact Five.new w a)
  have hblt : w.heap.size < W.heap.size := by rw [← hW]; simp
  have HA := Lib.hid ha
  clear hmany ha
  obtain ⟨c0, c1, c2, c3, c4⟩ := HC0.out
  by_cases hlong : 400 < a.n
  · have HLG := Lib.hid (decide_eq_true (show (400 : Int) < (a.n : Int) by omega))
    go_enter Try.func4, Try.ntmps4
    go_upto_region 1 with fail
    clear hW
    go_wp2_with first | (go_at_call 8; (with_reducible refine (long_a a true HLG.out _).mono ?_); rintro e w2 ⟨rfl, hb2⟩; have HB2 := Lib.hid (Mem.on HB0.out hb2); clear hb2) | (go_at_call 9; (with_reducible refine (works_on HB2.out).mono ?_); rintro e w3 ⟨rfl, hb3⟩; have HB3 := Lib.hid hb3; clear hb3)
    go_ret
    exact ⟨rfl, HB3.out⟩
  · have HLG := Lib.hid (decide_eq_false (show ¬ (400 : Int) < (a.n : Int) by omega))
    clear hlong
    go_enter Try.func4, Try.ntmps4
    go_upto_region 1 with fail
    clear hW
    go_upto_region 3 with (go_at_call 8; (with_reducible refine (long_a a false HLG.out _).mono ?_); rintro e w2 ⟨rfl, hb2⟩; have HB2 := Lib.hid (Mem.on HB0.out hb2); have HC2 := Lib.hid (HC0.out.below hblt hb2); have hblt2 : w.heap.size < w2.heap.size := (Nat.lt_of_lt_of_le hblt hb2.size); clear hb2 c0 c1 c2 c3 c4)
    have HA2 := Lib.hid (HA.out.below HB2.out)
    clear HA HB0 HC0 hblt
    go_upto_region 4 with (go_at_call 7; (with_reducible refine (new_h w2).mono ?_); rintro e w3 ⟨B, rfl, hp3, hb3⟩; have HD3 := Lib.hid (Duo.made hp3 hb3); clear hp3 hb3)
    go_upto_region 5 with fail
    have hD3 := HD3.out
    clear HD3
    generalize w3.alloc (.cells #[.slice none 0 0] 28) = W4 at hD3 ⊢
    generalize w3.heap.size = R at hD3 ⊢
    have HD4 := Lib.hid hD3
    clear hD3
    go_wp2
    go_loopw [7] (fun i wr => ∃ (k : Nat) (L : List (List Sl)), k ≤ 139 ∧ i = .int .i64 k ∧ Hid (Duo w2 B R L wr)) (fun i _ => 139 - (intOf i).toNat)
    case atStart => exact ⟨0, [], Nat.zero_le _, rfl, HD4⟩
    case round =>
      clear HD4
      obtain ⟨k, L, hk, rfl, HD⟩ := hrel
      by_cases hlt : (k : Int) < 40 + many % 100
      · have hd : decide ((k : Int) < 40 + many % 100) = true := decide_eq_true hlt
        have HDN : Hid (Calls Try.prog 10 #[.pointer (some ⟨B, 0, none⟩), .pointer (some ⟨R, 0, none⟩), .agg #[.int .i64 0, .bool false, .int .i64 0, .int .i64 0, .slice (some ⟨wr.heap.size, 0, none⟩) 250 250]] (wr.alloc (.cells Z 5)) fun e w' => e = .returned (.bool true) ∧ ∃ L', Duo w2 B R L' w') :=
          Lib.hid (((HD.out.below (al (Below.refl _ _) (.cells Z 5))).did ⟨0, false, 0, 0, some ⟨wr.heap.size, 0, none⟩, 250, 250, z⟩ ⟨HZS.out wr, show (-9223372036854775808 : Int) ≤ 0 ∧ (0 : Int) ≤ 9223372036854775807 by decide⟩).mono fun e w' ⟨a1, a2⟩ => ⟨a1, _, a2⟩)
        go_wp2_with (go_at_call 10; (with_reducible refine HDN.out.mono ?_); rintro e w5 ⟨rfl, L', hd5⟩; have HD5 := Lib.hid hd5; clear hd5)
        go_roundw
        case rel => exact ⟨k + 1, L', by omega, by go_num, HD5⟩
        case measure => simp [intOf]; omega
      · have hd : decide ((k : Int) < 40 + many % 100) = false := decide_eq_false hlt
        obtain ⟨c0, c1, c2, c3, c4⟩ := HC2.out.below hblt2 HD.out.b
        have HDN : Hid (Calls Try.prog 10 #[.pointer (some ⟨B, 0, none⟩), .pointer (some ⟨R, 0, none⟩), .agg #[.int .i64 a.d, .bool a.o, .int .i64 a.p, .int .i64 a.s, .slice a.A a.n a.c]] wr fun e w' => e = .returned (.bool true) ∧ ∃ L', Duo w2 B R L' w') :=
          Lib.hid ((HD.out.done a HA2.out).mono fun e w' ⟨a1, a2⟩ => ⟨a1, _, a2⟩)
        go_wp2_with first | (go_at_call 10; (with_reducible refine HDN.out.mono ?_); rintro e w5 ⟨rfl, L', hd5⟩; have HD5 := Lib.hid hd5; clear hd5) | (go_at_call 13; (with_reducible refine HD5.out.like.mono ?_); rintro e w8 ⟨rfl, hd8⟩; have HB8 := Lib.hid (HB2.out.trans (hd8.b.mono HB2.out.size)); clear hd8) | (go_at_call 9; (with_reducible refine (works_on HB8.out).mono ?_); rintro e w9 ⟨rfl, hb9⟩; have HB9 := Lib.hid hb9; clear hb9)
        go_ret
        exact ⟨rfl, HB9.out⟩
end Go.Proofs.Ythcilmlaoddckaa.Pg
