import Derived.Test.YtgbaolafedkbdaaGreatDoorProg
import Derived.Shelf.Strings.BuilderK
import Derived.WalkKit
import Derived.ProofKit
import Derived.Below
import Derived.ArgAppend
import Derived.Test.YtgbaolafedkbdaaGreatDoorExWalkCs
import Derived.Test.YtgbaolafedkbdaaGreatDoorShelf
import Derived.Test.YtgbaolafedkbdaaGreatDoorRights
import Derived.HandedShaped
import Derived.Shelf.Vars
import Derived.Stop.Joined
import Derived.Test.YtgbaolafedkbdaaGreatDoorMemListed
/- strings.Builder: its copy check, and a text written behind what it holds, whatever else stands in memory (the translation has a stop where a copied builder would panic, so the library's own laying does not fit). -/
namespace Go.Proofs.YtgbaolafedkbdaaGreatDoor.Mem
open Go.RowKit
set_option linter.unusedVariables false

abbrev tB : TypeId := 68
abbrev t8 : TypeId := 5
set_option maxRecDepth 100000 in
theorem copy_fresh (b : Nat) (w : World) (h0 : w.cell? ⟨b, 0, none⟩ = some (.pointer none)) (hsh : w.shape? b = some (tB, 2)) (hfz : w.frozen? ⟨b, 0, none⟩ = false) :
    Calls Tryz.prog 45 #[.pointer (some ⟨b, 0, none⟩)] w fun e w' => e = .returned (.tuple #[]) ∧ w' = w.setCell ⟨b, 0, none⟩ (.pointer (some ⟨b, 0, none⟩)) := by
  obtain ⟨j, hj, hjs⟩ := Option.map_eq_some_iff.1 (show (Tryz.prog.info? 68).map (·.size) = some 2 by kernel_rfl)
  go_enter Tryz.func45, Tryz.ntmps45
  go_wp2
  rw [Lib.run_to_unsafe w ⟨b, 0, none⟩ Tryz.underlying65 Tryz.underlying103 hj (by rw [hjs]; decide) hsh (Nat.zero_lt_succ 1)]
  simp only [Result.andThen]
  rw [Oper.upon_value]
  go_wp2
  rw [run_callFunc_extern Tryz.func67 (by kernel_rfl) (by kernel_rfl) (by kernel_rfl) (e := Extern.AbiNoEscape.same) (by kernel_rfl)]
  rw [Lib.run_noEscape]
  simp only [Result.andThen]
  rw [Oper.upon_value]
  go_wp2
  rw [Lib.run_from_unsafe w ⟨b, 0, none⟩ Tryz.underlying103 Tryz.underlying65 hj hsh (by kernel_rfl)]
  simp only [Result.andThen]
  rw [Oper.upon_value]
  go_wp2
  go_end0
  exact ⟨rfl, rfl⟩
set_option maxRecDepth 100000 in
theorem copy_used (b : Nat) (w : World) (h0 : w.cell? ⟨b, 0, none⟩ = some (.pointer (some ⟨b, 0, none⟩))) :
    Calls Tryz.prog 45 #[.pointer (some ⟨b, 0, none⟩)] w fun e w' => e = .returned (.tuple #[]) ∧ w' = w := by
  obtain ⟨j, hj, hjs⟩ := Option.map_eq_some_iff.1 (show (Tryz.prog.info? 68).map (·.size) = some 2 by kernel_rfl)
  go_enter Tryz.func45, Tryz.ntmps45
  go_wp2
  rw [Lib.run_neq_ptr_same w _ Tryz.underlying65 hj]
  go_wp2
  go_end0
  exact ⟨rfl, rfl⟩
theorem copy_any (B b : Nat) (bs : List Value) (w : World) (h : Lib.IsBuilderF tB t8 B b bs w) :
    Calls Tryz.prog 45 #[.pointer (some ⟨b, 0, none⟩)] w fun e w' => e = .returned (.tuple #[]) ∧ (Lib.BuilderAtF tB t8 B b (.pointer (some ⟨b, 0, none⟩)) bs w' ∧ Below B w w' ∧ Lib.OthersKept t8 (some b) w w') := by
  rcases h with h | h
  · refine (copy_fresh b w h.cell0 h.shape h.frozen0).mono ?_
    rintro e w' ⟨rfl, rfl⟩
    exact ⟨rfl, h.used _, (Below.refl B w).setCell (p := ⟨b, 0, none⟩) h.1 _, (Lib.OthersKept.refl _ _ w).setCell ⟨b, 0, none⟩ rfl _⟩
  · refine (copy_used b w h.cell0).mono ?_
    rintro e w' ⟨rfl, rfl⟩
    exact ⟨rfl, h, Below.refl B _, Lib.OthersKept.refl _ _ _⟩
set_option maxHeartbeats 2000000 in
set_option maxRecDepth 100000 in
/-- A text goes in behind. -/
theorem write_any (B b : Nat) (bs : List Value) (s : ByteArray) (w : World) (h : Lib.IsBuilderF tB t8 B b bs w) (hlen : bs.length + s.size ≤ 140737488355328) (hBw : B ≤ w.heap.size) :
    Calls Tryz.prog 25 #[.pointer (some ⟨b, 0, none⟩), .string s] w fun e w' => e = .returned (.tuple #[.int .i64 s.size, .nilIface]) ∧ (Lib.BuilderAtF tB t8 B b (.pointer (some ⟨b, 0, none⟩)) (bs ++ Lib.strCells s) w' ∧ Below B w w' ∧ Lib.OthersKept t8 (some b) w w') := by
  obtain ⟨i0, hi, hz0, hz1, hz2⟩ := info_parts (show (Tryz.prog.info? 5).map (fun i => (i.zero, i.size, i.bytes)) = some (some (.int .u8 0), 1, 1) by kernel_rfl)
  go_enter Tryz.func25, Tryz.ntmps25
  go_wp2_with (go_at_call 45; refine (copy_any B b bs _ h).mono ?_)
  rintro e w1 ⟨rfl, h1, hb1, hk1⟩
  obtain ⟨hB, v, hbk, hown, hne⟩ := h1
  have c0 : w1.cell? ⟨b, 0, none⟩ = some (.pointer (some ⟨b, 0, none⟩)) := by rw [Lib.cell_of_heap hbk]; rfl
  have c1 : w1.cell? ⟨b, 1, none⟩ = some v := by rw [Lib.cell_of_heap hbk]; rfl
  go_wp2_with (at_builtin; refine Lib.wpList_append_own_stringF _ rfl _ _ 66 9 rfl B 5 i0 Tryz.underlying66 Tryz.underlying9 hi hz0 hz1 hz2 _ _ _ rfl hown s rfl ?c3 ?c4 ?c5 ?_)
  case c3 => unfold maxLen; omega
  case c4 => omega
  case c5 => have := hb1.size; omega
  intro v' w2 hown' hgrow _
  have hlt : b < w1.heap.size := by
    rcases Nat.lt_or_ge b w1.heap.size with h' | h'
    · exact h'
    · simp [Array.getElem?_eq_none h'] at hbk
  have hb2 : w2.heap[b]? = some (.cells #[.pointer (some ⟨b, 0, none⟩), v] tB (0, 0)) := by
    rw [hgrow.block b hlt (fun e => hne e.symm)]
    exact hbk
  have d0 : w2.cell? ⟨b, 0, none⟩ = some (.pointer (some ⟨b, 0, none⟩)) := by rw [Lib.cell_of_heap hb2]; rfl
  have d1 : w2.cell? ⟨b, 1, none⟩ = some v := by rw [Lib.cell_of_heap hb2]; rfl
  have f1 : w2.frozen? ⟨b, 1, none⟩ = false := Lib.frozen_of_heap hb2 1
  obtain ⟨ao, n', cap, rfl⟩ : ∃ ao n' cap, v' = .slice ao n' cap := by
    rcases hown'.2 with ⟨hv, _⟩ | ⟨g, cap, cur, fz, hv, _⟩
    · exact ⟨_, _, _, hv⟩
    · exact ⟨_, _, _, hv⟩
  go_wp2
  go_ret2
  refine ⟨rfl, ?_, ?_, (hk1.grown hgrow (Lib.ownsRowF_kind hown)).setCell ⟨b, 1, none⟩ rfl _⟩
  · exact Lib.BuilderAtF.put (T := tB) (e := t8) hB hb2 (bs' := bs ++ Lib.strCells s) (by simpa [Lib.strCells_length] using hown') (by decide)
  · exact (hb1.grown hgrow (by have := hb1.size; omega) (fun k hk => (hown.lt k hk).1)).setCell (p := ⟨b, 1, none⟩) hB _
end Go.Proofs.YtgbaolafedkbdaaGreatDoor.Mem
/- A text written piece by piece by a strings.Builder's methods as values: what a call of these leaves. -/
namespace Go.Proofs.YtgbaolafedkbdaaGreatDoor.Ep
open Go.RowKit Go.Proofs.YtgbaolafedkbdaaGreatDoor.Mem Go.Proofs.YtgbaolafedkbdaaGreatDoor.Right Go.Proofs.YtgbaolafedkbdaaGreatDoor.Lx
set_option linter.unusedVariables false

/-- A builder in block b holds these bytes. -/
def Bl (b : Nat) (l : List UInt8) (w : World) : Prop := Lib.IsBuilderF tB t8 b b (Lib.byteCells l) w ∧ b ≤ w.heap.size
/-- What its calls leave: below b nothing turns, and above it nothing but rows of bytes. -/
def Wr (b : Nat) (w w' : World) : Prop := Below b w w' ∧ Lib.OthersKept t8 (some b) w w'
section
variable {b : Nat} {w a c : World}
theorem Wr.refl (b : Nat) (w : World) : Wr b w w := ⟨Below.refl _ _, Lib.OthersKept.refl _ _ _⟩
theorem Wr.trans (h : Wr b w a) (k : Wr b a c) : Wr b w c := ⟨h.1.trans k.1, h.2.trans k.2⟩
theorem Wr.alloc (h : Wr b w a) (hb : b ≤ a.heap.size) (o : Obj) : Wr b w (a.alloc o) := ⟨h.1.alloc hb o, h.2.alloc o⟩
theorem Wr.drewN (h : Wr b w a) (n : Nat) : Wr b w (a.drewN n) := ⟨h.1.trans ⟨rfl, rfl, rfl, Nat.le_refl _, fun _ _ => rfl⟩, h.2⟩
theorem Wr.cel {B : Nat} {t : TypeId} {cs : Array Value} (h : Wr b w a) (hB : B ≠ b) (ht : t ≠ t8) (hc : Cel w B t cs) : Cel a B t cs :=
  h.2 B _ hc (fun e => hB (Option.some.inj e)) (fun cs' fz e => ht (by injection e))
theorem Wr.of (h : Below w.heap.size w a) (hb : b ≤ w.heap.size) : Wr b w a := ⟨h.mono hb, fun k o hk _ _ => (h.block k (blk_lt hk)).trans hk⟩
theorem Bl.alloc {l : List UInt8} (h : Bl b l w) (o : Obj) : Bl b l (w.alloc o) := by
  refine ⟨h.1.elim (fun x => .inl (x.alloc o)) (fun x => .inr (x.alloc o)), ?_⟩
  have := h.2
  simp
  omega
theorem Bl.drewN {l : List UInt8} (h : Bl b l w) (n : Nat) : Bl b l (w.drewN n) := h
theorem Bl.lt {l : List UInt8} (h : Bl b l w) : b < w.heap.size := h.1.elim (fun x => x.lt) (fun x => x.lt)
theorem len_bytes (l : List UInt8) : (Lib.byteCells l).length = l.length := Lib.byteCells_length l
end
theorem cells_text (s : ByteArray) : Lib.strCells s = Lib.byteCells s.data.toList := rfl
/-- The method's value. -/
def wrV (b : Nat) : Value := .func (.func 25) #[.pointer (some ⟨b, 0, none⟩)] #[]
def lnV (b : Nat) : Value := .func (.func 26) #[.pointer (some ⟨b, 0, none⟩)] #[]
theorem put_any (b : Nat) (l : List UInt8) (s : ByteArray) (w : World) (h : Bl b l w) (hl : l.length + s.size ≤ 1000000000) :
    Calls Tryz.prog 25 #[.pointer (some ⟨b, 0, none⟩), .string s] w fun e w' => ∃ n, e = .returned (.tuple #[.int .i64 n, .nilIface]) ∧ Bl b (l ++ s.data.toList) w' ∧ Wr b w w' := by
  refine (write_any b b (Lib.byteCells l) s w h.1 (by rw [len_bytes]; omega) h.2).mono ?_
  rintro e w' ⟨rfl, h1, h2, h3⟩
  refine ⟨_, rfl, ⟨.inr ?_, Nat.le_trans h.2 h2.size⟩, h2, h3⟩
  rw [cells_text] at h1
  have e : Lib.byteCells (l ++ s.data.toList) = Lib.byteCells l ++ Lib.byteCells s.data.toList := by unfold Lib.byteCells; rw [List.map_append]
  rw [e]
  exact h1
theorem long_any (b : Nat) (l : List UInt8) (w : World) (h : Bl b l w) :
    Calls Tryz.prog 26 #[.pointer (some ⟨b, 0, none⟩)] w fun e w' => e = .returned (.int .i64 (l.length : Int)) ∧ w' = w := by
  have := Tryz.Builder_Len_f b b (Lib.byteCells l) w h.1
  rw [len_bytes] at this
  exact this
theorem told_any (b : Nat) (l : List UInt8) (w : World) (h : Bl b l w) :
    Calls Tryz.prog 28 #[.pointer (some ⟨b, 0, none⟩)] w fun e w' => e = .returned (.string (txt l)) ∧ Bl b l w' ∧ Wr b w w' := by
  refine (Tryz.Builder_String_any_k b b l w h.1 h.2).mono ?_
  rintro e w' ⟨rfl, h1, h2, h3⟩
  exact ⟨rfl, ⟨h1, Nat.le_trans h.2 h2.size⟩, h2, h3⟩
end Go.Proofs.YtgbaolafedkbdaaGreatDoor.Ep
/- The rank of an expression, and what a sign asks for on both sides: the program's answers. -/
namespace Go.Proofs.YtgbaolafedkbdaaGreatDoor.Ep
open Go.RowKit Go.Proofs.YtgbaolafedkbdaaGreatDoor.Mem Go.Proofs.YtgbaolafedkbdaaGreatDoor.Right
set_option linter.unusedVariables false

theorem unRank_any (o : Int) (w : World) : Calls Tryz.prog 68 #[.int .i64 o] w fun e w' => e = .returned (.int .i64 (rk 4 o : Int)) ∧ w = w' := by
  by_cases h1 : o = 1
  · subst h1
    go_enter Tryz.func68, Tryz.ntmps68
    go_wp2
    go_ret
    exact ⟨rfl, rfl⟩
  by_cases h2 : o = 2
  · subst h2
    go_enter Tryz.func68, Tryz.ntmps68
    go_wp2
    go_ret
    exact ⟨rfl, rfl⟩
  have t1 : (o == 1) = false := beq_no h1
  have t2 : (o == 2) = false := beq_no h2
  have H := Lib.hid (show (4 : Int) = (rk 4 o : Int) by unfold rk; simp [h1, h2])
  clear h1 h2
  go_enter Tryz.func68, Tryz.ntmps68
  go_wp2
  go_ret
  exact ⟨ri H.out, rfl⟩
theorem binRank_any (o : Int) (w : World) : Calls Tryz.prog 69 #[.int .i64 o] w fun e w' => e = .returned (.int .i64 (rk 5 o : Int)) ∧ w = w' := by
  by_cases h : o = 1 ∨ o = 2 ∨ o = 9 ∨ o = 10 ∨ o = 14 ∨ o = 11 ∨ o = 12 ∨ o = 13
  · rcases h with rfl | rfl | rfl | rfl | rfl | rfl | rfl | rfl
    all_goals
      go_enter Tryz.func69, Tryz.ntmps69
      go_wp2
      go_ret
      exact ⟨rfl, rfl⟩
  have t1 : (o == 1) = false := beq_no (by omega)
  have t2 : (o == 2) = false := beq_no (by omega)
  have t3 : (o == 9) = false := beq_no (by omega)
  have t4 : (o == 10) = false := beq_no (by omega)
  have t5 : (o == 14) = false := beq_no (by omega)
  have t6 : (o == 11) = false := beq_no (by omega)
  have t7 : (o == 12) = false := beq_no (by omega)
  have t8 : (o == 13) = false := beq_no (by omega)
  have H := Lib.hid (show (4 : Int) = (rk 5 o : Int) by
    unfold rk
    rw [if_neg (by decide), if_neg (by decide), if_neg (by decide), if_neg (by omega), if_neg (by omega), if_neg (by omega), if_neg (by omega)]
    rfl)
  clear h
  go_enter Tryz.func69, Tryz.ntmps69
  go_wp2
  go_ret
  exact ⟨ri H.out, rfl⟩
theorem rk_le (k o : Int) : rk k o ≤ 8 := by
  unfold rk
  repeat' split
  all_goals omega
theorem askedOf_any (o : Int) (w : World) : Calls Tryz.prog 100 #[.int .i64 o] w fun e w' => e = .returned (.tuple #[.int .i64 (ask1 o : Int), .int .i64 (ask2 o : Int)]) ∧ w = w' := by
  obtain ⟨r, hr⟩ : ∃ r, rk 5 o = r := ⟨_, rfl⟩
  have hr8 : r ≤ 8 := by rw [← hr]; exact rk_le _ _
  have HR := Lib.hid (show Calls Tryz.prog 69 #[.int .i64 o] w fun e w' => e = .returned (.int .i64 (r : Int)) ∧ w = w' by rw [← hr]; exact binRank_any o w)
  by_cases h4 : r = 4
  · have H := Lib.hid (show ask1 o = 5 ∧ ask2 o = 5 by unfold ask1 ask2; rw [hr, if_pos h4, if_pos h4]; exact ⟨rfl, rfl⟩)
    subst h4
    clear hr hr8
    go_enter Tryz.func100, Tryz.ntmps100
    go_wp2_with (go_at_call 69; (with_reducible refine HR.out.mono ?_); rintro e w' ⟨rfl, rfl⟩)
    go_ret2
    exact ⟨by rw [H.out.1, H.out.2]; rfl, rfl⟩
  · have H := Lib.hid (show ask1 o = r ∧ ask2 o = r + 1 by unfold ask1 ask2; rw [hr, if_neg h4, if_neg h4]; exact ⟨rfl, rfl⟩)
    have t4 : ((r : Int) == 4) = false := beq_no (by omega)
    clear hr h4
    go_enter Tryz.func100, Tryz.ntmps100
    go_wp2_with (go_at_call 69; (with_reducible refine HR.out.mono ?_); rintro e w' ⟨rfl, rfl⟩)
    go_ret2
    exact ⟨by rw [H.out.1, H.out.2]; rfl, rfl⟩
set_option maxHeartbeats 1000000 in
theorem rank_any (k o vk vn : Int) (vs nm : ByteArray) (A : Option Addr) (n c : Nat) (w : World) :
    Calls Tryz.prog 46 #[exV k o vk vn vs nm A n c] w fun e w' => e = .returned (.int .i64 (rk k o : Int)) ∧ Below w.heap.size w w' := by
  have HB := Lib.hid (al (Below.refl w.heap.size w) (.cells #[.int .i64 k, .int .i64 o, .int .i64 vk, .int .i64 vn, .string vs, .string nm, .slice A n c] 32))
  by_cases h4 : k = 4
  · subst h4
    go_enter Tryz.func46, Tryz.ntmps46
    go_wp2_with (go_at_call 68; (with_reducible refine (unRank_any _ _).mono ?_); rintro e w' ⟨rfl, rfl⟩)
    go_ret
    exact ⟨rfl, HB.out⟩
  by_cases h5 : k = 5
  · subst h5
    go_enter Tryz.func46, Tryz.ntmps46
    go_wp2_with (go_at_call 69; (with_reducible refine (binRank_any _ _).mono ?_); rintro e w' ⟨rfl, rfl⟩)
    go_ret
    exact ⟨rfl, HB.out⟩
  have t4 : (k == 4) = false := beq_no h4
  have t5 : (k == 5) = false := beq_no h5
  by_cases h6 : k = 6
  · subst h6
    go_enter Tryz.func46, Tryz.ntmps46
    go_wp2
    go_ret
    exact ⟨rfl, HB.out⟩
  have t6 : (k == 6) = false := beq_no h6
  have H := Lib.hid (show (8 : Int) = (rk k o : Int) by unfold rk; rw [if_neg h6, if_neg h4, if_pos h5]; rfl)
  clear h4 h5 h6
  go_enter Tryz.func46, Tryz.ntmps46
  go_wp2
  go_ret
  exact ⟨ri H.out, HB.out⟩
end Go.Proofs.YtgbaolafedkbdaaGreatDoor.Ep
/- A row that lists package-level variables, and whose walk reads another one: the wrap hands on what the list says, and the world's shape. -/
namespace Go.Proofs.YtgbaolafedkbdaaGreatDoor.Mem
open Go.RowKit
variable {H : Type} {enc : TypeId × Value → H}

/-- What the library's own variable holds: some number. -/
theorem some_max {W : World} (h : W.ShapedOpen Tryz.prog) : ∃ m, W.cell? ⟨4, 0, none⟩ = some (.int .i64 m) :=
  cell_of_shapedOpen_int (t := 3) (zero := #[.int .i64 0]) h (of_decide_eq_true (by kernel_rfl)) (by kernel_rfl) rfl (by kernel_rfl) (by kernel_rfl) Tryz.underlying3
end Go.Proofs.YtgbaolafedkbdaaGreatDoor.Mem
