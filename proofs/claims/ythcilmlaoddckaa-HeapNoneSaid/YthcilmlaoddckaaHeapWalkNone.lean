/- The law that a heap that is not there, and one that no call made, has nothing and takes nothing: the walk. -/
import Derived.Test.YthcilmlaoddckaaHeapNone
import Derived.Test.YthcilmlaoddckaaHeapWalkFills
import Derived.Deep.RegionHeld3
import Derived.Lib.SmallJoins
import Derived.Deep.CutRange
namespace Go.Proofs.Ythcilmlaoddckaa.Pg
open Go.RowKit Go.Proofs.Ythcilmlaoddckaa.Mem Go.Proofs.Ythcilmlaoddckaa.Right
set_option linter.unusedVariables false

/-- What the law's memory holds: the act, both pointers, the heap that no call made. -/
structure Nn (w : World) (a : Ah) (g G : Nat) (W : World) : Prop where
  f : Five W w.heap.size 0 a
  l : w.heap.size < W.heap.size
  p : Cel W G 23 #[.pointer none, .pointer (some ⟨g, 0, none⟩)]
  h : Cel W g 55 #[.bool false, .slice none 0 0]
  b : Below w.heap.size w W
theorem Nn.below {w : World} {a : Ah} {g G : Nat} {W W' : World} (h : Nn w a g G W) (hb : Below W.heap.size W W') : Nn w a g G W' :=
  ⟨h.f.below h.l hb, Nat.lt_of_lt_of_le h.l hb.size, h.p.below hb, h.h.below hb, Mem.on h.b hb⟩
theorem Nn.made (w : World) (a : Ah) {W : World} (f : Five W w.heap.size 0 a) (l : w.heap.size < W.heap.size) (b : Below w.heap.size w W) :
    Nn w a W.heap.size (W.heap.size + 1) ((W.alloc (.cells #[.bool false, .slice none 0 0] 55)).alloc (.cells #[.pointer none, .pointer (some ⟨W.heap.size, 0, none⟩)] 23)) := by
  have hb : Below W.heap.size W ((W.alloc (.cells #[.bool false, .slice none 0 0] 55)).alloc (.cells #[.pointer none, .pointer (some ⟨W.heap.size, 0, none⟩)] 23)) := al (al (Below.refl _ _) _) _
  exact ⟨f.below l hb, Nat.lt_of_lt_of_le l hb.size, Cel.new (W.alloc _) _ _ (by simp), (Cel.new W _ _ rfl).alloc _, Mem.on b hb⟩
/-- The pointer of a round. -/
theorem Nn.at_ {w : World} {a : Ah} {g G : Nat} {W : World} (h : Nn w a g G W) {k : Nat} (hk : k < 2) : ∃ A, W.cell? ⟨G, k, none⟩ = some (.pointer A) ∧ NP W A := by
  match k, hk with
  | 0, _ => exact ⟨none, h.p.at_ 0, .inl rfl⟩
  | 1, _ => exact ⟨_, h.p.at_ 1, .inr ⟨g, rfl, h.h⟩⟩
set_option maxRecDepth 100000 in
set_option maxHeartbeats 8000000 in
theorem walk_none (a : Ah) (w : World) (ha : AhOk w a) :
    Calls Try.prog 6 #[.agg #[.int .i64 a.d, .bool a.o, .int .i64 a.p, .int .i64 a.s, .slice a.A a.n a.c]] w fun e w' => e = .returned (.bool true) ∧ Below w.heap.size w w' := by
  obtain ⟨W, hW⟩ : ∃ W, w.alloc (.cells #[.int .i64 a.d, .bool a.o, .int .i64 a.p, .int .i64 a.s, .slice a.A a.n a.c] 34) = W := ⟨_, rfl⟩
  have HB0 := Lib.hid (show Below w.heap.size w W by rw [← hW]; exact al (Below.refl _ _) _)
  have HC0 := Lib.hid (show Five W w.heap.size 0 a by rw [← hW]; exact Five.new w a)
  have hblt : w.heap.size < W.heap.size := by rw [← hW]; simp
  clear ha
  go_enter Try.func6, Try.ntmps6
  go_upto_region 1 with fail
  clear hW
  go_upto_region 3 with fail
  have hN := Nn.made w a HC0.out hblt HB0.out
  generalize (W.alloc (.cells #[.bool false, .slice none 0 0] 55)).alloc (.cells #[.pointer none, .pointer (some ⟨W.heap.size, 0, none⟩)] 23) = W2 at hN ⊢
  generalize W.heap.size + 1 = G at hN ⊢
  generalize W.heap.size = g at hN ⊢
  have HN2 := Lib.hid hN
  clear hN
  go_wp2
  go_loopw [5] (fun i wr => ∃ k : Nat, k ≤ 2 ∧ i = .int .i64 k ∧ Hid (Nn w a g G wr)) (fun i _ => 2 - (intOf i).toNat)
  case atStart => exact ⟨0, Nat.zero_le _, rfl, HN2⟩
  case round =>
    clear HN2
    obtain ⟨k, hk, rfl, HR⟩ := hrel
    by_cases hlt : k < 2
    · obtain ⟨A, cA, hA⟩ := HR.out.at_ hlt
      have hlt' : (k : Int) < 2 := by omega
      obtain ⟨c0, c1, c2, c3, c4⟩ := HR.out.f
      have HK := Lib.hid (show ∀ W', Below wr.heap.size wr W' → (W'.cell? ⟨G, k, none⟩ = some (.pointer A) ∧ NP W' A) ∧ Five W' w.heap.size 0 a ∧ Nn w a g G W' from fun W' hW' =>
        ⟨⟨(hW'.cell (p := ⟨G, k, none⟩) (blk_lt HR.out.p)).trans cA, hA.below hW'⟩, (HR.out.below hW').f, HR.out.below hW'⟩)
      go_upto_region 6 with fail
      go_cut [6, 7] from 22 to 31 (fun x e wx => ∃ X, x = .pointer (some ⟨X, 0, none⟩) ∧ e = .int .i64 1 ∧ Hid (Cel wx X 31 #[.int .i64 0, .int .i64 0]) ∧ Hid (Below wr.heap.size wr wx))
      case first =>
        have HB1 := Lib.hid (show Below wr.heap.size wr (wr.alloc (.cells #[.int .i64 0, .int .i64 0] 31)).drew from (al (Below.refl _ _) _).drew)
        have HZ1 := Lib.hid (show Cel (wr.alloc (.cells #[.int .i64 0, .int .i64 0] 31)).drew wr.heap.size 31 #[.int .i64 0, .int .i64 0] from Cel.new wr _ _ rfl)
        go_region_held3 (fun W => W.cell? ⟨G, k, none⟩ = some (.pointer A) ∧ W.cell? ⟨w.heap.size, 4, none⟩ = some (.slice a.A a.n a.c))
          (first | go_keep | exact ⟨p0, p4⟩ | exact ⟨q0, q4⟩)
          (first | (go_simp; go_at_call 18; (with_reducible refine (put_n A a.A a.n a.c _ (HK.out _ (Below.refl _ _).drew).1.2).mono ?_); rintro e w4 ⟨rfl, hb4⟩; have HB4 := Lib.hid (undraw hb4); obtain ⟨⟨p0, hN4⟩, ⟨p1, p2, p3, p5, p4⟩, hR4⟩ := HK.out w4 (undraw hb4); clear hb4) | (go_simp; go_at_call 18; (with_reducible refine (put_n A a.A a.n a.c _ (HK.out _ HB1.out).1.2).mono ?_); rintro e w5 ⟨rfl, hb5⟩; have HZ5 := Lib.hid (HZ1.out.below hb5); have HB5 := Lib.hid (Mem.on HB1.out hb5); have z0 := HZ5.out.at_ 0; have z1 := HZ5.out.at_ 1; have f0 := HZ5.out.open_ 0; have f1 := HZ5.out.open_ 1; obtain ⟨⟨p0, hN4⟩, ⟨p1, p2, p3, p5, p4⟩, hR4⟩ := HK.out w5 HB5.out; have HB6 := Lib.hid ((HB5.out.setCell (p := ⟨wr.heap.size, 0, none⟩) (Nat.le_refl _) (.int .i64 0)).setCell (p := ⟨wr.heap.size, 1, none⟩) (Nat.le_refl _) (.int .i64 0)); obtain ⟨⟨q0, _⟩, ⟨_, _, _, _, q4⟩, _⟩ := HK.out _ HB6.out; clear hb5))
        · go_wp2
          go_meet
          exact ⟨_, rfl, rfl, Lib.hid (Cel.new w4 _ _ rfl), Lib.hid (al HB4.out _)⟩
        · go_wp2
          go_meet
          exact ⟨_, rfl, rfl, Lib.hid ((HZ5.out.set 0 (.int .i64 0)).set 1 (.int .i64 0)), HB6⟩
      case rest =>
        obtain ⟨X, rfl, rfl, HX, HBX⟩ := hcut
        have HRX := Lib.hid (HR.out.below HBX.out)
        obtain ⟨⟨d0, hAX⟩, ⟨b0, b1, b2, b3, b4⟩, _⟩ := HK.out _ HBX.out
        have HKX := Lib.hid (show ∀ W', Below wc.heap.size wc W' → (W'.cell? ⟨G, k, none⟩ = some (.pointer A) ∧ NP W' A) ∧ Five W' w.heap.size 0 a ∧ Cel W' X 31 #[.int .i64 0, .int .i64 0] from fun W' hW' =>
          ⟨(HK.out _ (Mem.on HBX.out hW')).1, (HK.out _ (Mem.on HBX.out hW')).2.1, HX.out.below hW'⟩)
        clear c0 c1 c2 c3 c4 cA
        go_upto_region 7 with fail
        go_cut [8, 9] from 32 to 43 (fun x e wx => ∃ Y, x = .pointer (some ⟨Y, 0, none⟩) ∧ e = .int .i64 1 ∧ Hid (Cel wx Y 31 #[.int .i64 0, .int .i64 0]) ∧ Hid (Below wc.heap.size wc wx))
        case first =>
          have HB1 := Lib.hid (show Below wc.heap.size wc (wc.alloc (.cells #[.int .i64 0, .int .i64 0] 31)).drew from (al (Below.refl _ _) _).drew)
          have HZ1 := Lib.hid (show Cel (wc.alloc (.cells #[.int .i64 0, .int .i64 0] 31)).drew wc.heap.size 31 #[.int .i64 0, .int .i64 0] from Cel.new wc _ _ rfl)
          go_region_held3 (fun W => W.cell? ⟨G, k, none⟩ = some (.pointer A) ∧ W.cell? ⟨w.heap.size, 2, none⟩ = some (.int .i64 a.p) ∧ W.cell? ⟨w.heap.size, 3, none⟩ = some (.int .i64 a.s) ∧ W.cell? ⟨w.heap.size, 4, none⟩ = some (.slice a.A a.n a.c))
            (first | go_keep | exact ⟨p0, p2, p3, p4⟩ | exact ⟨q0, q2, q3, q4⟩)
            (first | (go_simp; go_at_call 19; (with_reducible refine (set_n A a.p a.s a.A a.n a.c _ (HKX.out _ (Below.refl _ _).drew).1.2).mono ?_); rintro e w4 ⟨rfl, hb4⟩; have HB4 := Lib.hid (undraw hb4); obtain ⟨⟨p0, _⟩, ⟨_, _, p2, p3, p4⟩, _⟩ := HKX.out w4 (undraw hb4); clear hb4) | (go_simp; go_at_call 19; (with_reducible refine (set_n A a.p a.s a.A a.n a.c _ (HKX.out _ HB1.out).1.2).mono ?_); rintro e w5 ⟨rfl, hb5⟩; have HZ5 := Lib.hid (HZ1.out.below hb5); have HB5 := Lib.hid (Mem.on HB1.out hb5); have z0 := HZ5.out.at_ 0; have z1 := HZ5.out.at_ 1; have f0 := HZ5.out.open_ 0; have f1 := HZ5.out.open_ 1; obtain ⟨⟨p0, _⟩, ⟨_, _, p2, p3, p4⟩, _⟩ := HKX.out w5 HB5.out; have HB6 := Lib.hid ((HB5.out.setCell (p := ⟨wc.heap.size, 0, none⟩) (Nat.le_refl _) (.int .i64 0)).setCell (p := ⟨wc.heap.size, 1, none⟩) (Nat.le_refl _) (.int .i64 0)); obtain ⟨⟨q0, _⟩, ⟨_, _, q2, q3, q4⟩, _⟩ := HKX.out _ HB6.out; clear hb5))
          · go_wp2
            go_meet
            exact ⟨_, rfl, rfl, Lib.hid (Cel.new w4 _ _ rfl), Lib.hid (al HB4.out _)⟩
          · go_wp2
            go_meet
            exact ⟨_, rfl, rfl, Lib.hid ((HZ5.out.set 0 (.int .i64 0)).set 1 (.int .i64 0)), HB6⟩
        case rest =>
          obtain ⟨Y, rfl, rfl, HY, HBY⟩ := hcut
          have HKY := Lib.hid (show ∀ W', Below wc.heap.size wc W' → (W'.cell? ⟨G, k, none⟩ = some (.pointer A) ∧ NP W' A) ∧ Five W' w.heap.size 0 a ∧ (W'.cell? ⟨X, 0, none⟩ = some (.int .i64 0) ∧ W'.cell? ⟨X, 1, none⟩ = some (.int .i64 0) ∧ W'.cell? ⟨Y, 0, none⟩ = some (.int .i64 0) ∧ W'.cell? ⟨Y, 1, none⟩ = some (.int .i64 0)) ∧ Nn w a g G W' from fun W' hW' =>
            have hX := (HKX.out _ (Mem.on HBY.out hW')).2.2
            have hY := HY.out.below hW'
            ⟨(HKX.out _ (Mem.on HBY.out hW')).1, (HKX.out _ (Mem.on HBY.out hW')).2.1, ⟨hX.at_ 0, hX.at_ 1, hY.at_ 0, hY.at_ 1⟩, (HRX.out.below HBY.out).below hW'⟩)
          clear b0 b1 b2 b3 b4 d0
          obtain ⟨⟨d0, _⟩, ⟨_, _, d2, d3, _⟩, ⟨d4, d5, d6, d7⟩, _⟩ := HKY.out _ (Below.refl _ _)
          go_upto_region 8 with fail
          go_region_held3 (fun W => W.cell? ⟨G, k, none⟩ = some (.pointer A) ∧ W.cell? ⟨w.heap.size, 2, none⟩ = some (.int .i64 a.p) ∧ W.cell? ⟨w.heap.size, 3, none⟩ = some (.int .i64 a.s))
            (first | go_keep | exact ⟨p0, p2, p3⟩)
            (first | (go_simp; go_at_call 16; (with_reducible refine (get_n A a.p a.s _ (HKY.out _ (Below.refl _ _).drew).1.2).mono ?_); rintro e w10 ⟨rfl, hb10⟩; have HB10 : Hid (Below wc.heap.size wc w10) := Lib.hid (undraw hb10); obtain ⟨⟨p0, _⟩, ⟨_, _, p2, p3, _⟩, ⟨p4, p5, p6, p7⟩, _⟩ := HKY.out _ (undraw hb10); clear hb10))
          go_upto_region 9 with fail
          clear d0 d2 d3 d4 d5 d6 d7
          go_region_held3 (fun W => W.cell? ⟨G, k, none⟩ = some (.pointer A) ∧ W.cell? ⟨w.heap.size, 2, none⟩ = some (.int .i64 a.p) ∧ W.cell? ⟨w.heap.size, 3, none⟩ = some (.int .i64 a.s) ∧ W.cell? ⟨X, 0, none⟩ = some (.int .i64 0) ∧ W.cell? ⟨X, 1, none⟩ = some (.int .i64 0) ∧ W.cell? ⟨Y, 0, none⟩ = some (.int .i64 0) ∧ W.cell? ⟨Y, 1, none⟩ = some (.int .i64 0))
            (first | go_keep | exact ⟨q0, q2, q3, q4, q5, q6, q7⟩ | exact ⟨r0, r2, r3, r4, r5, r6, r7⟩ | exact ⟨s0, s2, s3, s4, s5, s6, s7⟩)
            (first | (go_simp; go_at_call 20; (with_reducible refine (drop_n A a.p a.s _ (HKY.out _ HB10.out.drew).1.2).mono ?_); rintro e w11 ⟨rfl, hb11⟩; have hu11 : Below w10.heap.size w10 w11 := undraw hb11; have HB11 := Lib.hid (Mem.on HB10.out hu11); obtain ⟨⟨q0, _⟩, ⟨_, _, q2, q3, _⟩, ⟨q4, q5, q6, q7⟩, _⟩ := HKY.out _ HB11.out; clear hb11 hu11) | (go_simp; go_at_call 14; (with_reducible refine (all_n A _ (HKY.out _ HB11.out).1.2).mono ?_); rintro e w12 ⟨rfl, hb12⟩; have HB12 := Lib.hid (Mem.on HB11.out hb12); obtain ⟨⟨r0, _⟩, ⟨_, _, r2, r3, _⟩, ⟨r4, r5, r6, r7⟩, _⟩ := HKY.out _ HB12.out; clear hb12) | (go_simp; go_at_call 21; (with_reducible refine (pages_n A _ (HKY.out _ HB12.out).1.2).mono ?_); rintro e w13 ⟨rfl, rfl⟩) | (go_simp; go_at_call 11; (with_reducible refine (len_n A _ (HKY.out _ HB12.out).1.2).mono ?_); rintro e w14 ⟨rfl, hb14⟩; have HB14 := Lib.hid (Mem.on HB12.out hb14); obtain ⟨⟨s0, _⟩, ⟨_, _, s2, s3, _⟩, ⟨s4, s5, s6, s7⟩, _⟩ := HKY.out _ HB14.out; clear hb14))
          go_wp2
          go_roundw
          case rel => exact ⟨k + 1, by omega, by go_num, Lib.hid (HKY.out _ HB14.out).2.2.2⟩
          case measure => simp [intOf]; omega
    · obtain rfl : k = 2 := by omega
      go_wp2_with (go_at_call 9; (with_reducible refine (works_on HR.out.b).mono ?_); rintro e w9 ⟨rfl, hb9⟩; have HB9 := Lib.hid hb9; clear hb9)
      go_ret
      exact ⟨rfl, HB9.out⟩
end Go.Proofs.Ythcilmlaoddckaa.Pg
