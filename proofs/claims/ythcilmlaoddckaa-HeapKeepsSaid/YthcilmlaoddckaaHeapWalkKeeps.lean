/- The law that what is done to one item changes no other one: the walk. -/
import Derived.Test.YthcilmlaoddckaaHeapWalkFills
import Derived.Test.YthcilmlaoddckaaHeapKeepMath
import Derived.BigQuiet
import Derived.Lib.SmallJoins
namespace Go.Proofs.Ythcilmlaoddckaa.Pg
open Go.RowKit Go.Proofs.Ythcilmlaoddckaa.Mem Go.Proofs.Ythcilmlaoddckaa.Right
set_option linter.unusedVariables false

/-- What is kept beside both heaps: the items as they were, and where the act is done. -/
structure Was (w : World) (B R : Nat) (L : List (List Sl)) (A : Option Addr) (m : Nat) (l : List It) (T : Nat) (p s : Int) (wr : World) : Prop where
  d : Duo w B R L wr
  i : IL 47 wr A m l
  t : Cel wr T 31 #[.int .i64 p, .int .i64 s]
theorem Was.below {w : World} {B R : Nat} {L : List (List Sl)} {A : Option Addr} {m : Nat} {l : List It} {T : Nat} {p s : Int} {wr w' : World} (h : Was w B R L A m l T p s wr) (hb : Below wr.heap.size wr w') : Was w B R L A m l T p s w' :=
  ⟨h.d.below hb, h.i.below hb, h.t.below hb⟩
set_option maxRecDepth 100000 in
set_option maxHeartbeats 8000000 in
theorem walk_keeps (P : Option Addr) (n c : Nat) (acs : List Ah) (a : Ah) (w : World) (hn : acs.length = n) (hn64 : n ≤ 9223372036854775807) (h : ActsH w P acs) (ha : AhOk w a) :
    Calls Try.prog 5 #[.slice P n c, .agg #[.int .i64 a.d, .bool a.o, .int .i64 a.p, .int .i64 a.s, .slice a.A a.n a.c]] w fun e w' => e = .returned (.bool true) ∧ Below w.heap.size w w' := by
  have HN := Lib.hid hn
  obtain ⟨W, hW⟩ : ∃ W, w.alloc (.cells #[.int .i64 a.d, .bool a.o, .int .i64 a.p, .int .i64 a.s, .slice a.A a.n a.c] 34) = W := ⟨_, rfl⟩
  have HB0 := Lib.hid (show Below w.heap.size w W by rw [← hW]; exact al (Below.refl _ _) _)
  have HC0 := Lib.hid (show Five W w.heap.size 0 a by rw [← hW]; exact Five.new w a)
  have hblt : w.heap.size < W.heap.size := by rw [← hW]; simp
  have HA := Lib.hid (ha.below HB0.out)
  have H := Lib.hid (h.below HB0.out)
  clear ha h hn
  go_enter Try.func5, Try.ntmps5
  go_upto_region 1 with fail
  clear hW
  go_upto_region 2 with (go_at_call 7; (with_reducible refine (new_h W).mono ?_); rintro e w1 ⟨B, rfl, hp1, hb1⟩; have HD1 := Lib.hid (Duo.made hp1 hb1); clear hp1 hb1)
  go_upto_region 3 with fail
  have hD2 := HD1.out
  clear HD1
  generalize w1.alloc (.cells #[.slice none 0 0] 28) = W2 at hD2 ⊢
  generalize w1.heap.size = R at hD2 ⊢
  have HD2 := Lib.hid hD2
  clear hD2
  go_wp2
  go_loopw [7] (fun i wr => ∃ (k : Nat) (L : List (List Sl)), k ≤ n ∧ k ≤ 60 ∧ i = .int .i64 k ∧ Hid (Duo W B R L wr)) (fun i _ => n - (intOf i).toNat)
  case atStart => exact ⟨0, [], Nat.zero_le _, Nat.zero_le _, rfl, HD2⟩
  case round =>
    clear HD2
    obtain ⟨k, L, hk, hk60, rfl, HD⟩ := hrel
    by_cases hlt : k < n ∧ k < 60
    · obtain ⟨hlt, h60⟩ := hlt
      obtain ⟨b, o, x, rfl, hblt2, hc, hx⟩ := H.out.one (k := k) (by rw [HN.out]; exact hlt)
      have hC : Five W b (o + k * 5) x := hc
      have HC := Lib.hid hC
      have HX := Lib.hid hx
      clear hc hC hx
      have hlt' : (k : Int) < (n : Int) := by omega
      have h60' : (k : Int) < 60 := by omega
      have d1 : decide (k < n) = true := decide_eq_true hlt
      have d2 : decide ((k : Int) < 60) = true := decide_eq_true h60'
      obtain ⟨c0, c1, c2, c3, c4⟩ := HC.out.below hblt2 HD.out.b
      by_cases hlong : 400 < x.n
      · have HLG := Lib.hid (decide_eq_true (show (400 : Int) < (x.n : Int) by omega))
        go_wp2_with first | (go_at_call 8; (with_reducible refine (long_a x true HLG.out _).mono ?_); rintro e w2 ⟨rfl, hb2⟩; have HB2 := Lib.hid (HB0.out.trans ((Mem.on HD.out.b hb2).mono HB0.out.size)); clear hb2) | (go_at_call 9; (with_reducible refine (works_on HB2.out).mono ?_); rintro e w3 ⟨rfl, hb3⟩; have HB3 := Lib.hid hb3; clear hb3)
        go_ret
        exact ⟨rfl, HB3.out⟩
      · have HLG := Lib.hid (decide_eq_false (show ¬ (400 : Int) < (x.n : Int) by omega))
        have HDN : Hid (∀ W', Duo W B R L W' → Calls Try.prog 10 #[.pointer (some ⟨B, 0, none⟩), .pointer (some ⟨R, 0, none⟩), .agg #[.int .i64 x.d, .bool x.o, .int .i64 x.p, .int .i64 x.s, .slice x.A x.n x.c]] W' fun e w' => e = .returned (.bool true) ∧ ∃ L', Duo W B R L' w') := Lib.hid fun W' hW =>
          (hW.done x HX.out).mono fun e w' ⟨a1, a2⟩ => ⟨a1, _, a2⟩
        clear hlong
        go_wp2_with first | (go_at_call 8; (with_reducible refine (long_a x false HLG.out _).mono ?_); rintro e w2 ⟨rfl, hb2⟩; have HD2 := Lib.hid (HD.out.below hb2); clear c0 c1 c2 c3 c4; obtain ⟨c0, c1, c2, c3, c4⟩ := HC.out.below hblt2 HD2.out.b; clear hb2) | (go_at_call 10; (with_reducible refine (HDN.out _ HD2.out).mono ?_); rintro e w3 ⟨rfl, L', hd3⟩; have HD3 := Lib.hid hd3; clear hd3 c0 c1 c2 c3 c4)
        go_roundw
        case rel => exact ⟨k + 1, L', by omega, by omega, by go_num, HD3⟩
        case measure => simp [intOf]; omega
    · obtain ⟨u1, u2, hu1, hu2, hor⟩ : ∃ u1 u2 : Bool, decide ((k : Int) < (n : Int)) = u1 ∧ decide ((k : Int) < 60) = u2 ∧ (u1 = true → u2 = false) := ⟨_, _, rfl, rfl, fun h1 => by
        have := of_decide_eq_true h1
        exact decide_eq_false (by omega)⟩
      have d1 : decide (k < n) = u1 := by rw [← hu1]; exact decide_eq_decide.2 (by omega)
      have hOK := HD.out.h.ok
      obtain ⟨m, hm⟩ : ∃ m : Nat, (allH L).length = m := ⟨_, rfl⟩
      have hm9 : m ≤ 16384 := by
        have h1 := allH_len L L.length hOK.each
        have h2 := hOK.few
        rw [← hm]; unfold allH
        omega
      obtain ⟨p', s', hpl⟩ : ∃ p' s', placeV L a.o a.p a.s = (p', s') := ⟨_, _, rfl⟩
      obtain ⟨L', hL'⟩ : ∃ L', stepH L a.d p' s' a.l = L' := ⟨_, rfl⟩
      obtain ⟨m', hm'⟩ : ∃ m' : Nat, (allH L').length = m' := ⟨_, rfl⟩
      have HAL : Hid (∀ W', Duo W B R L W' → Calls Try.prog 14 #[.pointer (some ⟨B, 0, none⟩)] W' fun e w' => ∃ A c, e = .returned (.slice A m c) ∧ IL 47 w' A m (allH L) ∧ Duo W B R L w') := Lib.hid fun W' hW' => by
        have := all_h W.heap.size B L W' hW'.h
        rw [hm] at this
        exact this.mono fun e w' ⟨A, c, e1, hi, hb⟩ => ⟨A, c, e1, hi, hW'.below hb⟩
      have HAL2 : Hid (∀ W', Duo W B R L' W' → Calls Try.prog 14 #[.pointer (some ⟨B, 0, none⟩)] W' fun e w' => ∃ A c, e = .returned (.slice A m' c) ∧ Below W'.heap.size W' w') := Lib.hid fun W' hW' => by
        have := all_h W.heap.size B L' W' hW'.h
        rw [hm'] at this
        exact this.mono fun e w' ⟨A, c, e1, _, hb⟩ => ⟨A, c, e1, hb⟩
      have HPLC : Hid (∀ W', Duo W B R L W' → Calls Try.prog 15 #[.pointer (some ⟨R, 0, none⟩), .agg #[.int .i64 a.d, .bool a.o, .int .i64 a.p, .int .i64 a.s, .slice a.A a.n a.c]] W' fun e w' => e = .returned (.agg #[.int .i64 p', .int .i64 s']) ∧ Below W'.heap.size W' w') := Lib.hid fun W' hW' => by
        have := place_r W.heap.size R L a.d a.o a.p a.s a.A a.n a.c W' hW'.r HA.out.2
        rwa [hpl] at this
      have HDN : Hid (∀ W', Duo W B R L W' → Calls Try.prog 10 #[.pointer (some ⟨B, 0, none⟩), .pointer (some ⟨R, 0, none⟩), .agg #[.int .i64 a.d, .bool a.o, .int .i64 a.p, .int .i64 a.s, .slice a.A a.n a.c]] W' fun e w' => e = .returned (.bool true) ∧ Duo W B R L' w' ∧ Frm [55, 28, 72] W.heap.size W' w') := Lib.hid fun W' hW' => by
        have := done_act W.heap.size B R L a.d a.o a.p a.s a.A a.n a.c a.l W' hW'.h hW'.r ((HA.out.below hW'.b).1) HA.out.2
        rw [hpl, hL'] at this
        exact this.mono fun e w' ⟨e1, h1, h2, h3⟩ => ⟨e1, ⟨h1, h2, hW'.b.trans h3.1⟩, h3⟩
      have HKI : Hid (∀ (k : Nat) (i : It), (allH L)[k]? = some i → ¬((a.d = 1 ∨ a.d = 2) ∧ (i.p : Int) = p' ∧ (i.s : Int) = s') → getH L' i.p i.s = (some i.d, 0)) := Lib.hid fun k i hi hn => by
        rw [← hL']; exact keep_items hOK a.d p' s' a.l hi hn
      have HKF : Hid (∀ W', Duo W B R L' W' → m' ≤ m + 1 ∧ m ≤ m' + 1) := Lib.hid fun W' hW' => by
        rw [← hm, ← hm']; exact keep_few hOK hW'.h.ok hL'
      obtain ⟨l, hl⟩ : ∃ l, allH L = l := ⟨_, rfl⟩
      rw [hl] at HAL HKI
      clear hOK hpl hL' hm hm' hl hk hk60
      cases u1
      case' true => obtain rfl : u2 = false := hor rfl; have hlt' : (k : Int) < (n : Int) := of_decide_eq_true hu1; have h60' : ¬ (k : Int) < 60 := of_decide_eq_false hu2
      case' false => have hlt' : ¬ (k : Int) < (n : Int) := of_decide_eq_false hu1
      all_goals clear hlt hor
      all_goals go_upto_region 9 with fail
      all_goals
        obtain ⟨c0, c1, c2, c3, c4⟩ := HC0.out.below hblt HD.out.b
        by_cases hlong : 400 < a.n
        · have HLG := Lib.hid (decide_eq_true (show (400 : Int) < (a.n : Int) by omega))
          go_wp2_with first | (go_at_call 8; (with_reducible refine (long_a a true HLG.out _).mono ?_); rintro e w2 ⟨rfl, hb2⟩; have HB2 := Lib.hid (HB0.out.trans ((Mem.on HD.out.b hb2).mono HB0.out.size)); clear hb2) | (go_at_call 9; (with_reducible refine (works_on HB2.out).mono ?_); rintro e w3 ⟨rfl, hb3⟩; have HB3 := Lib.hid hb3; clear hb3)
          go_ret
          exact ⟨rfl, HB3.out⟩
        · have HLG := Lib.hid (decide_eq_false (show ¬ (400 : Int) < (a.n : Int) by omega))
          clear hlong
          go_upto_region 12 with first | (go_at_call 8; (with_reducible refine (long_a a false HLG.out _).mono ?_); rintro e w2 ⟨rfl, hb2⟩; have HD2 := Lib.hid (HD.out.below hb2); clear hb2) | (go_at_call 14; (with_reducible refine (HAL.out _ HD2.out).mono ?_); rintro e w3 ⟨A3, c3', rfl, hi3, hd3⟩; have HD3 := Lib.hid hd3; have HI3 := Lib.hid hi3; clear hi3 hd3)
          clear c0 c1 c2 c3 c4
          obtain ⟨c0, c1, c2, c3, c4⟩ := HC0.out.below hblt HD3.out.b
          go_upto_region 13 with (go_at_call 15; (with_reducible refine (HPLC.out _ HD3.out).mono ?_); rintro e w4 ⟨rfl, hb4⟩; have HB4 := Lib.hid hb4; clear hb4)
          have hW5 : Was W B R L A3 m l w4.heap.size p' s' (w4.alloc (.cells #[.int .i64 p', .int .i64 s'] 31)) := ⟨(HD3.out.below HB4.out).below (al (Below.refl _ _) _), (HI3.out.below HB4.out).below (al (Below.refl _ _) _), Cel.new w4 _ _ rfl⟩
          generalize w4.alloc (.cells #[.int .i64 p', .int .i64 s'] 31) = W5 at hW5 ⊢
          generalize w4.heap.size = T at hW5 ⊢
          have HW5 := Lib.hid hW5
          clear c0 c1 c2 c3 c4 hW5
          obtain ⟨c0, c1, c2, c3, c4⟩ := HC0.out.below hblt HW5.out.d.b
          go_wp2_with first | (go_at_call 10; (with_reducible refine (HDN.out _ HW5.out.d).mono ?_); rintro e w6 ⟨rfl, hd6, hf6⟩; have HW6 : Hid (Was W B R L' A3 m l T p' s' w6) := Lib.hid ⟨hd6, HW5.out.i.frm hf6 (by decide), hf6.cel (by decide) HW5.out.t⟩; clear hd6 hf6) | (go_at_call 14; (with_reducible refine (HAL2.out _ HW6.out.d).mono ?_); rintro e w7 ⟨A7, c7, rfl, hb7⟩; have HW7 := Lib.hid (HW6.out.below hb7); clear hb7)
          go_loopw [11] (fun i wr => ∃ k : Nat, k ≤ m ∧ i = .int .i64 k ∧ Hid (Was W B R L' A3 m l T p' s' wr)) (fun i _ => m - (intOf i).toNat)
          case atStart => exact ⟨0, Nat.zero_le _, rfl, HW7⟩
          case round =>
            obtain ⟨k2, hk2, rfl, HW8⟩ := hrel
            by_cases hlt2 : k2 < m
            · obtain ⟨b, off, i, A', c', rfl, hb, hi, i0, i1, i2, hs⟩ := HW8.out.i.get hlt2
              have HIC := Lib.hid (show ∀ W', Below wr.heap.size wr W' → W'.cell? ⟨b, off + k2 * 3, none⟩ = some (.int .i64 (i.p : Int)) ∧ W'.cell? ⟨b, off + k2 * 3 + 1, none⟩ = some (.int .i64 (i.s : Int)) ∧ W'.cell? ⟨b, off + k2 * 3 + 2, none⟩ = some (.slice A' i.d.length c') from fun W' hW' =>
                ⟨(hW'.cell (p := ⟨b, _, none⟩) hb).trans i0, (hW'.cell (p := ⟨b, _, none⟩) hb).trans i1, (hW'.cell (p := ⟨b, _, none⟩) hb).trans i2⟩)
              have HS := Lib.hid hs
              clear hs
              have t0 := HW8.out.t.at_ 0
              have t1 := HW8.out.t.at_ 1
              clear c0 c1 c2 c3 c4
              obtain ⟨c0, c1, c2, c3, c4⟩ := HC0.out.below hblt HW8.out.d.b
              have hlt2' : (k2 : Int) < (m : Int) := by omega
              obtain ⟨b1, hb1⟩ : ∃ b1, ((i.p : Int) == p') = b1 := ⟨_, rfl⟩
              obtain ⟨b2, hb2⟩ : ∃ b2, ((i.s : Int) == s') = b2 := ⟨_, rfl⟩
              obtain ⟨q1, hq1⟩ : ∃ q1, (a.d == 1) = q1 := ⟨_, rfl⟩
              obtain ⟨q2, hq2⟩ : ∃ q2, (a.d == 2) = q2 := ⟨_, rfl⟩
              have hc : (b1 = true ∧ b2 = true ∧ q1 = true) ∨ (b1 = true ∧ b2 = true ∧ q1 = false ∧ q2 = true) ∨ (b1 = false) ∨ (b1 = true ∧ b2 = false) ∨ (b1 = true ∧ b2 = true ∧ q1 = false ∧ q2 = false) := by
                cases b1 <;> cases b2 <;> cases q1 <;> cases q2 <;> simp
              have HNN := Lib.hid (show b1 = false ∨ b2 = false ∨ (q1 = false ∧ q2 = false) → getH L' i.p i.s = (some i.d, 0) from fun ho => HKI.out k2 i hi fun he => by
                obtain ⟨h1, h2, h3⟩ := he
                rw [← hb1, ← hb2, ← hq1, ← hq2, h2, h3] at ho
                rcases h1 with h1 | h1 <;> rw [h1] at ho <;> simp at ho)
              clear hi
              go_upto_region 18 with fail
              rcases hc with ⟨rfl, rfl, rfl⟩ | ⟨rfl, rfl, rfl, rfl⟩ | rfl | ⟨rfl, rfl⟩ | ⟨rfl, rfl, rfl, rfl⟩
              all_goals
                go_quiet (fail)
              · go_wp2
                go_roundw
                case rel => exact ⟨k2 + 1, by omega, by go_num, Lib.hid (HW8.out.below (Joins.below_draws _ _ _))⟩
                case measure => simp [intOf]; omega
              · go_wp2
                go_roundw
                case rel => exact ⟨k2 + 1, by omega, by go_num, Lib.hid (HW8.out.below (Joins.below_draws _ _ _))⟩
                case measure => simp [intOf]; omega
              all_goals
                have HX := Lib.hid (HNN.out (by simp))
                have hb9 := Joins.below_draws wr.heap.size wr nq
                have HW9 := Lib.hid (HW8.out.below hb9)
                have HS9 := Lib.hid (HS.out.below hb9)
                have HB9 := Lib.hid hb9
                clear i0 i1 i2 t0 t1 c0 c1 c2 c3 c4 hb9
                generalize wr.drewN nq = wq at HW9 HS9 HB9 ⊢
                obtain ⟨i0, i1, i2⟩ := HIC.out _ HB9.out
                go_wp2_with first | (go_at_call 16; (with_reducible refine (get_h W.heap.size B L' i.p i.s _ HW9.out.d.h (some i.d) 0 HX.out).mono ?_); rintro e w10 ⟨A10, c10, rfl, hs10, hb10⟩; have HB10 := Lib.hid (Mem.on HB9.out hb10); have HW10 := Lib.hid (HW9.out.below hb10); have HS10 := Lib.hid hs10; have HT10 := Lib.hid (HS9.out.below hb10); clear i0 i1 i2 hs10 hb10; obtain ⟨i0, i1, i2⟩ := HIC.out _ HB10.out) | (go_at_call 17; (with_reducible refine (same_self A10 A' i.d.length c10 c' i.d _ HS10.out HT10.out).mono ?_); rintro e w11 ⟨rfl, hb11⟩; have HW11 := Lib.hid (HW10.out.below hb11); clear hb11)
                go_roundw
                case rel => exact ⟨k2 + 1, by omega, by go_num, HW11⟩
                case measure => simp [intOf]; omega
            · obtain rfl : k2 = m := by omega
              have hkf := HKF.out _ HW8.out.d
              have e1 : decide ((-1 : Int) ≤ (m' : Int) - (k2 : Int)) = true := decide_eq_true (by omega)
              have e2 : decide ((m' : Int) - (k2 : Int) ≤ 1) = true := decide_eq_true (by omega)
              have HB8 := Lib.hid (HB0.out.trans (HW8.out.d.b.mono HB0.out.size))
              go_wp2_with (go_at_call 9; (with_reducible refine (works_on HB8.out).mono ?_); rintro e w9 ⟨rfl, hb9⟩; have HB9 := Lib.hid hb9; clear hb9)
              go_ret
              exact ⟨rfl, HB9.out⟩
end Go.Proofs.Ythcilmlaoddckaa.Pg
