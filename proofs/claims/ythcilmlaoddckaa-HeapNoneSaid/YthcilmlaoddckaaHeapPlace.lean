/- The law's small calls: whether an act is long; where it is done. -/
import Derived.Test.YthcilmlaoddckaaHeapRefAll
namespace Go.Proofs.Ythcilmlaoddckaa.Pg
open Go.RowKit Go.Proofs.Ythcilmlaoddckaa.Mem Go.Proofs.Ythcilmlaoddckaa.Right
set_option linter.unusedVariables false

/-- An act as a value. -/
def hav (d : Int) (o : Bool) (p s : Int) (A : Option Addr) (n c : Nat) : Value := .agg #[.int .i64 d, .bool o, .int .i64 p, .int .i64 s, .slice A n c]
/-- An act in a block of its own. -/
def HA (w : World) (B : Nat) (d : Int) (o : Bool) (p s : Int) (A : Option Addr) (n c : Nat) : Prop := Cel w B 34 #[.int .i64 d, .bool o, .int .i64 p, .int .i64 s, .slice A n c]
theorem HA.five {w : World} {B : Nat} {d : Int} {o : Bool} {p s : Int} {A : Option Addr} {n c : Nat} (h : HA w B d o p s A n c) :
    w.cell? ⟨B, 0, none⟩ = some (.int .i64 d) ∧ w.cell? ⟨B, 1, none⟩ = some (.bool o) ∧ w.cell? ⟨B, 2, none⟩ = some (.int .i64 p) ∧ w.cell? ⟨B, 3, none⟩ = some (.int .i64 s) ∧ w.cell? ⟨B, 4, none⟩ = some (.slice A n c) := ⟨Cel.at_ h 0, Cel.at_ h 1, Cel.at_ h 2, Cel.at_ h 3, Cel.at_ h 4⟩
theorem HA.below {w w' : World} {B : Nat} {d : Int} {o : Bool} {p s : Int} {A : Option Addr} {n c : Nat} (h : HA w B d o p s A n c) (hb : Below w.heap.size w w') : HA w' B d o p s A n c := Cel.below h hb
theorem HA.frm {T : List TypeId} {n₀ : Nat} {w w' : World} {B : Nat} {d : Int} {o : Bool} {p s : Int} {A : Option Addr} {n c : Nat} (h : HA w B d o p s A n c) (hf : Frm T n₀ w w') (ht : 34 ∉ T) : HA w' B d o p s A n c := hf.cel ht h
theorem long_h (d : Int) (o : Bool) (p s : Int) (A : Option Addr) (n c : Nat) (x : Bool) (hx : decide (400 < (n : Int)) = x) (w : World) :
    Calls Try.prog 8 #[.agg #[.int .i64 d, .bool o, .int .i64 p, .int .i64 s, .slice A n c]] w fun e w' => e = .returned (.bool x) ∧ Below w.heap.size w w' := by
  go_enter Try.func8, Try.ntmps8
  go_wp2
  go_ret
  exact ⟨rb (by rw [← hx]), al (Below.refl _ _) _⟩
/-- The number of the item that an act means. -/
def placeI (p : Int) (n : Nat) : Nat := ((p.tmod n + n).tmod n).toNat
theorem placeI_lt {p : Int} {n : Nat} (h : 0 < n) : (p.tmod n + n).tmod n = (placeI p n : Int) ∧ placeI p n < n := by
  have h1 : -(n : Int) < p.tmod n := by
    have := Int.lt_tmod_of_pos p (show (0 : Int) < n by omega)
    omega
  have h3 : 0 ≤ (p.tmod n + n).tmod n := Int.tmod_nonneg _ (by omega)
  have h4 : (p.tmod n + n).tmod n < n := Int.tmod_lt_of_pos _ (by omega)
  unfold placeI
  omega
/-- Where an act is done. -/
def placeV (L : List (List Sl)) (o : Bool) (p s : Int) : Int × Int :=
  if o = true then (match (allH L)[placeI p (allH L).length]? with
    | some i => ((i.p : Int), (i.s : Int))
    | none => (p, s)) else (p, s)
theorem res_c {fn : Func} {p : Tmp} {ty : TypeId} (h : fn.results = #[.cell p ty]) {tmps : Array Value} {P : Program} {W : World} {B : Nat} {r : Value} (hp : tmps.getD p undef = .pointer (some ⟨B, 0, none⟩)) (hl : (loadVar ty ⟨B, 0, none⟩).run P W = .ok r W) :
    (results fn tmps).run P W = .ok r W := by
  simp only [results, h]
  simp only [Array.getD_eq_getD_getElem?] at hp ⊢
  simp [hp, asAddr, hl]
set_option maxRecDepth 100000 in
set_option maxHeartbeats 2000000 in
theorem place_r (n₀ B : Nat) (L : List (List Sl)) (d : Int) (o : Bool) (p s : Int) (A : Option Addr) (n c : Nat) (w : World) (h : RP w n₀ B L) (hp : -9223372036854775808 ≤ p ∧ p ≤ 9223372036854775807) :
    Calls Try.prog 15 #[.pointer (some ⟨B, 0, none⟩), .agg #[.int .i64 d, .bool o, .int .i64 p, .int .i64 s, .slice A n c]] w fun e w' => e = .returned (.agg #[.int .i64 (placeV L o p s).1, .int .i64 (placeV L o p s).2]) ∧ Below w.heap.size w w' := by
  obtain ⟨W, hW⟩ : ∃ W, (w.alloc (.cells #[.int .i64 d, .bool o, .int .i64 p, .int .i64 s, .slice A n c] 34)).alloc (.cells #[.int .i64 0, .int .i64 0] 31) = W := ⟨_, rfl⟩
  have HB0 := Lib.hid (show Below w.heap.size w W by rw [← hW]; exact al (al (Below.refl _ _) _) _)
  have HA0 := Lib.hid (show HA W w.heap.size d o p s A n c by rw [← hW]; exact Cel.alloc (Cel.new w _ _ rfl) _)
  have HZ0 := Lib.hid (show Cel W (w.heap.size + 1) 31 #[.int .i64 0, .int .i64 0] by rw [← hW]; exact Cel.new (w.alloc _) _ _ (by simp))
  have HAL := Lib.hid (all_r n₀ B L _ (h.below HB0.out))
  obtain ⟨m, hm⟩ : ∃ m, (allH L).length = m := ⟨_, rfl⟩
  rw [hm] at HAL
  have hm9 : m ≤ 16384 := by
    have h1 := allH_len L L.length h.each
    have h2 := h.few
    rw [← hm]; unfold allH
    omega
  clear h
  cases o with
  | false =>
    have HV : Hid (placeV L false p s = (p, s)) := Lib.hid rfl
    go_enter Try.func15, Try.ntmps15
    go_upto_region 1 with fail
    clear hW
    go_wp2_with (go_at_call 12; (with_reducible refine HAL.out.mono ?_); rintro e w1 ⟨A1, c1, rfl, hi1, hb1⟩; have HB1 := Lib.hid (Mem.on HB0.out hb1); have HZ1 := Lib.hid (HZ0.out.below hb1); have HA1 := Lib.hid (HA0.out.below hb1); obtain ⟨a0, a1, a2, a3, a4⟩ := HA1.out.five; have z0 := HZ1.out.at_ 0; have z1 := HZ1.out.at_ 1; have zf0 := HZ1.out.open_ 0; have zf1 := HZ1.out.open_ 1; clear hi1 hb1)
    refine bodyPost_ret (res_c rfl rfl (rid_load ((HZ1.out.set 0 (.int .i64 p)).set 1 (.int .i64 s)))) rfl ?_
    exact ⟨by rw [HV.out], (HB1.out.setCell (p := ⟨w.heap.size + 1, 0, none⟩) (Nat.le_succ _) _).setCell (p := ⟨w.heap.size + 1, 1, none⟩) (Nat.le_succ _) _⟩
  | true =>
    rcases Nat.eq_zero_or_pos m with h0 | hpos
    · subst h0
      have HV : Hid (placeV L true p s = (p, s)) := Lib.hid (by
        unfold placeV
        rw [if_pos rfl, List.eq_nil_of_length_eq_zero hm]
        rfl)
      go_enter Try.func15, Try.ntmps15
      go_upto_region 1 with fail
      clear hW
      go_wp2_with (go_at_call 12; (with_reducible refine HAL.out.mono ?_); rintro e w1 ⟨A1, c1, rfl, hi1, hb1⟩; have HB1 := Lib.hid (Mem.on HB0.out hb1); have HZ1 := Lib.hid (HZ0.out.below hb1); have HA1 := Lib.hid (HA0.out.below hb1); obtain ⟨a0, a1, a2, a3, a4⟩ := HA1.out.five; have z0 := HZ1.out.at_ 0; have z1 := HZ1.out.at_ 1; have zf0 := HZ1.out.open_ 0; have zf1 := HZ1.out.open_ 1; clear hi1 hb1)
      refine bodyPost_ret (res_c rfl rfl (rid_load ((HZ1.out.set 0 (.int .i64 p)).set 1 (.int .i64 s)))) rfl ?_
      exact ⟨by rw [HV.out], (HB1.out.setCell (p := ⟨w.heap.size + 1, 0, none⟩) (Nat.le_succ _) _).setCell (p := ⟨w.heap.size + 1, 1, none⟩) (Nat.le_succ _) _⟩
    · obtain ⟨ht, hlt⟩ := placeI_lt (p := p) hpos
      obtain ⟨x, hx⟩ : ∃ x, placeI p m = x := ⟨_, rfl⟩
      rw [hx] at ht hlt
      have hxm : (x : Int) < (m : Int) := by omega
      have HX := Lib.hid hx
      have HM := Lib.hid hm
      have hm0 : ¬ (m : Int) = 0 := by omega
      obtain ⟨q, hq⟩ : ∃ q, p.tmod (m : Int) = q := ⟨_, rfl⟩
      have hq1 : -(m : Int) < q := by
        rw [← hq]
        have := Int.lt_tmod_of_pos p (show (0 : Int) < m by omega)
        omega
      have hq2 : q < (m : Int) := by
        rw [← hq]
        exact Int.tmod_lt_of_pos _ (by omega)
      rw [hq, Int.tmod_eq_emod_of_nonneg (by omega), Int.add_emod_right] at ht
      clear hx hm
      go_enter Try.func15, Try.ntmps15
      go_upto_region 1 with fail
      clear hW
      go_upto_region 4 with (go_at_call 12; (with_reducible refine HAL.out.mono ?_); rintro e w1 ⟨A1, c1, rfl, hi1, hb1⟩; have HI1 := Lib.hid hi1; have HB1 := Lib.hid (Mem.on HB0.out hb1); have HZ1 := Lib.hid (HZ0.out.below hb1); have HA1 := Lib.hid (HA0.out.below hb1); obtain ⟨a0, a1, a2, a3, a4⟩ := HA1.out.five; clear hi1 hb1)
      obtain ⟨b, off, i, A', c', rfl, hb, hi, c0, c1, _⟩ := HI1.out.get hlt
      have HV : Hid (placeV L true p s = ((i.p : Int), (i.s : Int))) := Lib.hid (by
        unfold placeV
        rw [if_pos rfl, HM.out, HX.out, hi])
      clear hi
      go_upto_region 5 with fail
      have HB2 := Lib.hid (al HB1.out (.cells #[.int .i64 (i.p : Int), .int .i64 (i.s : Int)] 62))
      have HZ2 := Lib.hid (HZ1.out.alloc (.cells #[.int .i64 (i.p : Int), .int .i64 (i.s : Int)] 62))
      have HT2 := Lib.hid (Cel.new w1 62 #[.int .i64 (i.p : Int), .int .i64 (i.s : Int)] rfl)
      have hlt2 : w.heap.size + 1 < w1.heap.size := blk_lt HZ1.out
      clear a0 a1 a2 a3 a4 c0 c1
      generalize w1.alloc (.cells #[.int .i64 (i.p : Int), .int .i64 (i.s : Int)] 62) = W2 at HB2 HZ2 HT2 ⊢
      generalize w1.heap.size = T at hlt2 HT2 ⊢
      have z0 := HZ2.out.at_ 0
      have z1 := HZ2.out.at_ 1
      have zf0 := HZ2.out.open_ 0
      have zf1 := HZ2.out.open_ 1
      have t0 := HT2.out.at_ 0
      have t1 := HT2.out.at_ 1
      go_wp2
      refine bodyPost_ret (res_c rfl rfl (rid_load ((HZ2.out.set 0 (.int .i64 (i.p : Int))).set 1 (.int .i64 (i.s : Int))))) rfl ?_
      exact ⟨by rw [HV.out], (HB2.out.setCell (p := ⟨w.heap.size + 1, 0, none⟩) (Nat.le_succ _) _).setCell (p := ⟨w.heap.size + 1, 1, none⟩) (Nat.le_succ _) _⟩
end Go.Proofs.Ythcilmlaoddckaa.Pg
